
/-
  What is proved: what a draw of objects keeps while one object is made; the contract of the model's draw of a scope. No condition beside what each theorem states.
-/
import Derived.Test.YtnhdijkaakjdgaaDrawU
import Derived.Test.YtnhdijkaakjdgaaStScope
import Derived.Deep.RegionLaw
import Derived.Deep.RegionHeld3
namespace Go.Proofs.Ytnhdijkaakjdgaa
open Go.ChangeShapes Go.WideShapes Go.ChangeAt Go.RowKit
set_option maxRecDepth 100000

/-- While an object is made at block bt, its params in a row of their own: of what was there only the cursor at g has turned. -/
structure So (g bt : Nat) (w0 : World) (cells : Array Value) (fv : Value) (fs : List ParamD) (w : World) (k : Nat) : Prop where
  cur : Cur w g k
  on : Only g w0 w
  box : Box w bt 43 cells
  own : OwnG paramS 45 w0.heap.size Nowhere w fv fs
  lo : w0.heap.size ≤ bt
  g0 : g < w0.heap.size
  ne : ∀ q, fv.ownBlock = some q → q ≠ bt
section
variable {g bt k : Nat} {w0 w w' : World} {cells : Array Value} {fv : Value} {fs : List ParamD}
theorem So.pick (h : So g bt w0 cells fv fs w k) {k' : Nat} (hc : Cur w' g k') (ho : Only g w w') : So g bt w0 cells fv fs w' k' where
  cur := hc
  on := h.on.trans ho
  box := h.box.only ho (by have := h.lo; have := h.g0; omega)
  own := h.own.keep (fun q hq hl => ho.block q hl (fun e => by
    rcases hq with h1 | h1
    · exact h1.elim
    · have := (h.own.lt q h1).1; have := h.g0; injection e with e; omega)) ho.size
  lo := h.lo
  g0 := h.g0
  ne := h.ne
theorem So.below (h : So g bt w0 cells fv fs w k) (hb : Below w.heap.size w w') : So g bt w0 cells fv fs w' k where
  cur := h.cur.below hb h.cur.lt
  on := h.on.trans (Only.ofBelow hb)
  box := h.box.below hb h.box.lt
  own := h.own.below hb
  lo := h.lo
  g0 := h.g0
  ne := h.ne
theorem So.alloc (h : So g bt w0 cells fv fs w k) (o : Obj) : So g bt w0 cells fv fs (w.alloc o) k := h.below ((Below.refl _ _).alloc (Nat.le_refl _) o)
theorem So.set (h : So g bt w0 cells fv fs w k) (j : Nat) (v : Value) : So g bt w0 (cells.setIfInBounds j v) fv fs (w.setCell ⟨bt, j, none⟩ v) k := by
  have hne : bt ≠ g := by have := h.lo; have := h.g0; omega
  have hon : Only bt w (w.setCell ⟨bt, j, none⟩ v) := (Only.refl bt w).set j v
  refine ⟨?_, ⟨hon.os.trans h.on.os, hon.tape.trans h.on.tape, hon.output.trans h.on.output, Nat.le_trans h.on.size hon.size, fun b hb hn => (hon.block b (Nat.lt_of_lt_of_le hb h.on.size) (fun e => by injection e with e; have := h.lo; omega)).trans (h.on.block b hb hn)⟩, h.box.set j v, ?_, h.lo, h.g0, h.ne⟩
  · obtain ⟨a, len, cap, j', seed, h1, h2, h3, h4, h5⟩ := h.cur
    exact ⟨a, len, cap, j', seed, h1.only hon (Ne.symm hne), h2, h3, h4, fun i hi => by
      obtain ⟨b, o, z, e, hb, hc, hz⟩ := h5 i hi
      exact ⟨b, o, z, e, hb, (World.cell?_of_block (hon.block b (by have := h1.lt; omega) (fun e => by injection e with e; have := h.lo; have := h.g0; omega))).trans hc, hz⟩⟩
  · exact h.own.keep (fun q hq hl => hon.block q hl (fun e => by
      rcases hq with h1 | h1
      · exact h1.elim
      · injection e with e; exact h.ne q h1 e)) hon.size
theorem So.keepG (h : So g bt w0 cells fv fs w k) {S : Type} {s : Shape S} {e : TypeId} {B : Nat} {v : Value} {l : List S} (ho : OwnG s e B (fun q => B ≤ q) w0 v l) (hg : g < B) : OwnG s e B (fun q => B ≤ q ∧ q < w0.heap.size) w v l :=
  (ho.mono (P' := fun q => B ≤ q ∧ q < w0.heap.size) (fun q hq hl => ⟨hq, hl⟩)).keep (fun q hq hl => h.on.block q hl (fun e => by
    injection e with e
    rcases hq with h1 | h1
    · have := h1.1; omega
    · have := (ho.lt q h1).1; omega)) h.on.size
end
theorem So.push {g bt k : Nat} {w0 w w' : World} {cells : Array Value} {fv fv' : Value} {fs : List ParamD} {f : ParamD} (h : So g bt w0 cells fv fs w k) (hown : OwnG paramS 45 w0.heap.size Nowhere w' fv' (fs ++ [f])) (hg : w.grownBy w' fv.ownBlock) (hv : fv'.ownBlock = fv.ownBlock ∨ fv'.ownBlock = some w.heap.size) : So g bt w0 cells fv' (fs ++ [f]) w' k where
  cur := h.cur.grown hg (fun r hr => by have := (h.own.lt r hr).1; have := h.g0; omega)
  on := ⟨hg.os.trans h.on.os, hg.tape.trans h.on.tape, hg.output.trans h.on.output, Nat.le_trans h.on.size hg.size, fun b hb hn => (hg.block b (Nat.lt_of_lt_of_le hb h.on.size) (fun e => by have := (h.own.lt b e.symm).1; omega)).trans (h.on.block b hb hn)⟩
  box := (hg.block bt h.box.lt (fun e => h.ne bt e.symm rfl)).trans h.box
  own := hown
  lo := h.lo
  g0 := h.g0
  ne := fun q hq => by
    rcases hv with e | e
    · exact h.ne q (e ▸ hq)
    · rw [e] at hq
      injection hq with hq
      have := h.box.lt
      omega
theorem So.rows {g bt k : Nat} {w0 w : World} {cells : Array Value} {fv : Value} {fs : List ParamD} (h : So g bt w0 cells fv fs w k) : ∃ a c, fv = .slice a fs.length c ∧ fs.length ≤ c ∧ Rows paramS (fun q => w0.heap.size ≤ q) w a fs := by
  obtain ⟨a, c, e, h1, _, h2⟩ := OwnG.rows (Q := fun q => w0.heap.size ≤ q) h.own (fun q hq _ => hq.elim) (fun q hq => (h.own.lt q hq).1)
  exact ⟨a, c, e, h1, h2⟩
/-- What is to be appended. -/
theorem So.at_ {g bt k B : Nat} {w0 w : World} {cells : Array Value} {fv lv : Value} {fs : List ParamD} {l : List ObjectD} (h : So g bt w0 cells fv fs w k) (hl : OwnG objectS 43 B (fun q => B ≤ q) w0 lv l) (hB : B ≤ w0.heap.size) (nm : ByteArray) (kd mk ty va : Int) :
    objectS.At (fun q => B ≤ q ∧ lv.ownBlock ≠ some q) w [.string nm, .int .i64 kd, .int .i64 mk, .int .i64 ty, .int .i64 va, fv] ⟨nm, kd, mk, ty, va, fs⟩ := by
  obtain ⟨a, c, rfl, h1, h2⟩ := h.rows
  exact ⟨a, c, rfl, h2.mono (fun q hq _ => ⟨by omega, fun e => by have := (hl.lt q e).2; omega⟩), h1⟩
/-- What drawn objects are like. -/
def drawnO (t : ObjectD) : Prop := t.fName.size ≤ 20 ∧ t.fParams.length ≤ 2 ∧ ∀ p ∈ t.fParams, p.fName.size ≤ 20
/-- While a scope is drawn at block bs, its objects in rows of their own at B and behind. -/
structure Sc (g bs B : Nat) (w0 : World) (nm : ByteArray) (iv tv uv ov : Value) (ims : List ByteArray) (l : List TypeD) (us : List UseD) (os : List ObjectD) (w : World) (k : Nat) : Prop where
  cur : Cur w g k
  on : Only g w0 w
  box : Box w bs 36 #[.string nm, iv, tv, ov, uv]
  ims : OwnG strS 9 w0.heap.size Nowhere w iv ims
  types : OwnG typeZ 31 (w0.heap.size + 1) (fun q => w0.heap.size < q ∧ q < bs) w tv l
  uses : OwnG useS 100 w0.heap.size Nowhere w uv us
  objs : OwnG objectS 43 B (fun q => B ≤ q) w ov os
  lo : w0.heap.size ≤ bs
  hB : bs < B
  hw : B ≤ w.heap.size
  g0 : g < w0.heap.size
  tlt : ∀ q, tv.ownBlock = some q → q < bs
  ilt : ∀ q, iv.ownBlock = some q → q < B ∧ bs < q
  ult : ∀ q, uv.ownBlock = some q → q < B ∧ bs < q ∧ iv.ownBlock ≠ some q
section
variable {g bs B k : Nat} {w0 w w' : World} {nm : ByteArray} {iv tv uv ov : Value} {ims : List ByteArray} {l : List TypeD} {us : List UseD} {os : List ObjectD}
theorem Sc.turn (h : Sc g bs B w0 nm iv tv uv ov ims l us os w k) {k' : Nat} (hc : Cur w' g k') (ho : Only g w w') : Sc g bs B w0 nm iv tv uv ov ims l us os w' k' where
  cur := hc
  on := h.on.trans ho
  box := h.box.only ho (by have := h.lo; have := h.g0; omega)
  ims := h.ims.keep (fun q hq hl => ho.block q hl (fun e => by
    rcases hq with h1 | h1
    · exact h1.elim
    · have := (h.ims.lt q h1).1; have := h.g0; injection e with e; omega)) ho.size
  types := h.types.keep (fun q hq hl => ho.block q hl (fun e => by
    have := h.g0
    injection e with e
    rcases hq with h1 | h1
    · have := h1.1; omega
    · have := (h.types.lt q h1).1; omega)) ho.size
  uses := h.uses.keep (fun q hq hl => ho.block q hl (fun e => by
    rcases hq with h1 | h1
    · exact h1.elim
    · have := (h.uses.lt q h1).1; have := h.g0; injection e with e; omega)) ho.size
  objs := h.objs.keep (fun q hq hl => ho.block q hl (fun e => by
    have := h.g0
    have := h.lo
    have := h.hB
    injection e with e
    rcases hq with h1 | h1
    · omega
    · have := (h.objs.lt q h1).1; omega)) ho.size
  lo := h.lo
  hB := h.hB
  hw := Nat.le_trans h.hw ho.size
  g0 := h.g0
  tlt := h.tlt
  ilt := h.ilt
  ult := h.ult
theorem Sc.below (h : Sc g bs B w0 nm iv tv uv ov ims l us os w k) (hb : Below w.heap.size w w') : Sc g bs B w0 nm iv tv uv ov ims l us os w' k := h.turn (h.cur.below hb h.cur.lt) (Only.ofBelow hb)
theorem Sc.alloc (h : Sc g bs B w0 nm iv tv uv ov ims l us os w k) (o : Obj) : Sc g bs B w0 nm iv tv uv ov ims l us os (w.alloc o) k := h.below ((Below.refl _ _).alloc (Nat.le_refl _) o)
def bBase : ByteArray := ⟨#[66, 97, 115, 101]⟩
def bX : ByteArray := ⟨#[120]⟩
/-- What it stands on is named. -/
theorem Sc.based (h : Sc g bs (bs + 1) w0 nm (.slice none 0 0) tv (.slice none 0 0) (.slice none 0 0) [] l [] [] w k) :
    Sc g bs (w.heap.size + 2) w0 nm (.slice (some ⟨w.heap.size, 0, none⟩) 1 1) tv (.slice (some ⟨w.heap.size + 1, 0, none⟩) 1 1) (.slice none 0 0) [bBase] l [⟨bBase, bX⟩] [] ((((w.setCell ⟨bs, 1, none⟩ (.slice (some ⟨w.heap.size, 0, none⟩) 1 1)).setCell ⟨bs, 4, none⟩ (.slice (some ⟨w.heap.size + 1, 0, none⟩) 1 1)).alloc (.cells #[.string bBase] 9)).alloc (.cells #[.string bBase, .string bX] 100)) k := by
  have h0 := h.lo
  have h2 := h.g0
  have hw := h.box.lt
  have hon : Only bs w ((((w.setCell ⟨bs, 1, none⟩ (.slice (some ⟨w.heap.size, 0, none⟩) 1 1)).setCell ⟨bs, 4, none⟩ (.slice (some ⟨w.heap.size + 1, 0, none⟩) 1 1)).alloc (.cells #[.string bBase] 9)).alloc (.cells #[.string bBase, .string bX] 100)) := ((((Only.refl bs w).set _ _).set _ _).alloc _).alloc _
  refine ⟨h.cur.far hon (by omega), h.on.far hon h0, (((h.box.set 1 _).set 4 _).alloc _).alloc _, ?_, ?_, ?_, OwnG.nil, h0, by omega, by simp [World.setCell], h2, h.tlt, ?_, ?_⟩
  · refine .inr ⟨w.heap.size, 1, _, rfl, by omega, (Box.new' (g := w.heap.size) _ 9 #[.string bBase] (by simp [World.setCell])).alloc _, Nat.le_refl _, by unfold maxLen; decide, rfl, fun i hi _ => ?_⟩
    obtain rfl : i = 0 := by have : i < 1 := hi; omega
    exact ⟨[.string bBase], rfl, fun j hj => by have : j < 1 := hj; match j, this with | 0, _ => rfl⟩
  · exact h.types.keep (fun q hq hl => hon.block q hl (fun e => by
      injection e with e
      rcases hq with hq | hq
      · omega
      · have := h.tlt q hq; omega)) hon.size
  · refine .inr ⟨w.heap.size + 1, 1, _, rfl, by omega, Box.new' (g := w.heap.size + 1) _ 100 #[.string bBase, .string bX] (by simp [World.setCell]), Nat.le_refl _, by unfold maxLen; decide, rfl, fun i hi _ => ?_⟩
    obtain rfl : i = 0 := by have : i < 1 := hi; omega
    exact ⟨[.string bBase, .string bX], rfl, fun j hj => by have : j < 2 := hj; match j, this with | 0, _ => rfl | 1, _ => rfl⟩
  · intro q hq
    rw [ownBlock_slice] at hq
    injection hq with hq
    omega
  · intro q hq
    rw [ownBlock_slice] at hq ⊢
    injection hq with hq
    exact ⟨by omega, by omega, fun e => by injection e with e; omega⟩
/-- The answer's own block is written. -/
theorem Sc.home (h : Sc g bs B w0 nm iv tv uv ov ims l us os w k) (hlt : w0.heap.size < bs) (ho : Only w0.heap.size w w') : Sc g bs B w0 nm iv tv uv ov ims l us os w' k where
  cur := h.cur.far ho h.g0
  on := h.on.far ho (Nat.le_refl _)
  box := h.box.only ho (by omega)
  ims := h.ims.keep (fun q hq hl => ho.block q hl (fun e => by
    rcases hq with h1 | h1
    · exact h1.elim
    · have := (h.ilt q h1).2; injection e with e; omega)) ho.size
  types := h.types.keep (fun q hq hl => ho.block q hl (fun e => by
    injection e with e
    rcases hq with h1 | h1
    · have := h1.1; omega
    · have := (h.types.lt q h1).1; omega)) ho.size
  uses := h.uses.keep (fun q hq hl => ho.block q hl (fun e => by
    rcases hq with h1 | h1
    · exact h1.elim
    · have := (h.ult q h1).2.1; injection e with e; omega)) ho.size
  objs := h.objs.keep (fun q hq hl => ho.block q hl (fun e => by
    have := h.hB
    injection e with e
    rcases hq with h1 | h1
    · omega
    · have := (h.objs.lt q h1).1; omega)) ho.size
  lo := h.lo
  hB := h.hB
  hw := Nat.le_trans h.hw ho.size
  g0 := h.g0
  tlt := h.tlt
  ilt := h.ilt
  ult := h.ult
/-- One more object. -/
theorem Sc.push {ov' : Value} {o : ObjectD} (h : Sc g bs B w0 nm iv tv uv ov ims l us os w k) (hown : OwnG objectS 43 B (fun q => B ≤ q) w' ov' (os ++ [o])) (hg : w.grownBy w' ov.ownBlock) :
    Sc g bs B w0 nm iv tv uv ov' ims l us (os ++ [o]) (w'.setCell ⟨bs, 3, none⟩ ov') k := by
  have h0 := h.lo
  have h1 := h.hB
  have h2 := h.g0
  have hob : ∀ r, ov.ownBlock = some r → B ≤ r := fun r hr => (h.objs.lt r hr).1
  have hon : Only bs w' (w'.setCell ⟨bs, 3, none⟩ ov') := (Only.refl bs w').set 3 ov'
  have kp : ∀ q, q < w.heap.size → q < B → q ≠ bs → (w'.setCell ⟨bs, 3, none⟩ ov').heap[q]? = w.heap[q]? := fun q hq hB hn =>
    (hon.block q (Nat.lt_of_lt_of_le hq hg.size) (fun e => hn (by injection e))).trans (hg.block q hq (fun e => by have := hob q e.symm; omega))
  have hsz : w.heap.size ≤ (w'.setCell ⟨bs, 3, none⟩ ov').heap.size := Nat.le_trans hg.size hon.size
  refine ⟨(h.cur.grown hg (fun r hr => by have := hob r hr; omega)).far hon (by omega), (h.on.grownB hg (fun r hr => by have := hob r hr; omega)).far hon h0, ?_, ?_, ?_, ?_, ?_, h0, h1, Nat.le_trans h.hw hsz, h2, h.tlt, h.ilt, h.ult⟩
  · exact ((hg.block bs h.box.lt (fun e => by have := hob bs e.symm; omega)).trans h.box |> fun b : Box w' bs 36 #[.string nm, iv, tv, ov, uv] => b.set 3 ov')
  · exact h.ims.keep (fun q hq hl => by
      rcases hq with hq | hq
      · exact hq.elim
      · exact kp q hl (h.ilt q hq).1 (by have := (h.ilt q hq).2; omega)) hsz
  · exact h.types.keep (fun q hq hl => by
      rcases hq with hq | hq
      · exact kp q hl (by omega) (by omega)
      · exact kp q hl (by have := h.tlt q hq; omega) (by have := h.tlt q hq; omega)) hsz
  · exact h.uses.keep (fun q hq hl => by
      rcases hq with hq | hq
      · exact hq.elim
      · exact kp q hl (h.ult q hq).1 (by have := (h.ult q hq).2.1; omega)) hsz
  · exact hown.keep (fun q hq hl => hon.block q hl (fun e => by
      injection e with e
      rcases hq with hq | hq
      · omega
      · have := (hown.lt q hq).1; omega)) hon.size
end
end Go.Proofs.Ytnhdijkaakjdgaa

namespace Go.Proofs.Ytnhdijkaakjdgaa
open Go.ChangeShapes Go.WideShapes Go.ChangeAt Go.RowKit
set_option maxRecDepth 100000

/-- What a draw of a scope leaves. -/
def ScDrawn (g k : Nat) (w : World) (e : Ending) (w' : World) : Prop := ∃ bs B nm iv tv uv ov ims l us os, e = .returned (.agg #[.string nm, iv, tv, ov, uv]) ∧ nm.size ≤ 20 ∧ ims.length ≤ 1 ∧ (∀ x ∈ ims, x.size ≤ 20) ∧ 3 ≤ l.length ∧ l.length ≤ 9 ∧ (∀ t ∈ l, drawnT l.length t) ∧ us.length ≤ 1 ∧ (∀ u ∈ us, u.fMod.size ≤ 20 ∧ u.fName.size ≤ 20) ∧ os.length ≤ 5 ∧ (∀ o ∈ os, drawnO o) ∧ Sc g bs B w nm iv tv uv ov ims l us os w' k

set_option maxHeartbeats 32000000 in
theorem cScope (g k : Nat) (w : World) (hk : k ≤ 800000) (hc : Cur w g k) :
    Calls Try.prog 53 #[.pointer (some ⟨g, 0, none⟩)] w (ScDrawn g (k + 2000) w) := by
  have hgw := hc.lt
  have C1 := Lib.hid (hc.below ((Below.refl w.heap.size w).alloc (Nat.le_refl _) (.cells #[.string ⟨#[]⟩, .slice none 0 0, .slice none 0 0, .slice none 0 0, .slice none 0 0] 36)) hgw)
  have O1 := Lib.hid ((Only.refl g w).alloc (.cells #[.string ⟨#[]⟩, .slice none 0 0, .slice none 0 0, .slice none 0 0, .slice none 0 0] 36))
  have R1 := Lib.hid (Box.new w 36 #[.string ⟨#[]⟩, .slice none 0 0, .slice none 0 0, .slice none 0 0, .slice none 0 0])
  clear hc
  go_enter Try.func53, Try.ntmps53
  go_wp2_with fail
  have hs1 : (w.alloc (.cells #[.string ⟨#[]⟩, .slice none 0 0, .slice none 0 0, .slice none 0 0, .slice none 0 0] 36)).heap.size = w.heap.size + 1 := by simp
  generalize w.alloc (.cells #[.string ⟨#[]⟩, .slice none 0 0, .slice none 0 0, .slice none 0 0, .slice none 0 0] 36) = w1 at *
  refine (cOfLit g _ [⟨#[65]⟩, ⟨#[66]⟩, ⟨#[77]⟩] 1 _ _ (by omega) (by decide) (by decide) C1.out (by decide) hs1.symm).mono ?_
  rintro e w2 ⟨nm, hnm, rfl, hc2, ho2⟩
  have C2 := Lib.hid hc2
  have O2 := Lib.hid (O1.out.trans ho2)
  have R2 := Lib.hid (R1.out.only ho2 (by omega))
  have hnm20 : nm.size ≤ 20 := by omega
  clear C1 O1 R1 hc2 ho2
  go_wp2_with fail
  refine (cTypes g _ _ (by omega) C2.out).mono ?_
  rintro e w3 ⟨tv, l, rfl, htr, hl3, hl9, hdr, hc3, ho3⟩
  obtain ⟨ta, tc, rfl, _, _, _⟩ := OwnG.rows (Q := Any) htr (fun _ _ _ => trivial) (fun _ _ => trivial)
  have h23 := ho3.size
  have hr2 := R2.out.lt
  have h02 := O2.out.size
  have htl := OwnG.lt htr
  have S3 := Lib.hid (show Sc g w3.heap.size (w3.heap.size + 1) w nm (.slice none 0 0) (.slice ta l.length tc) (.slice none 0 0) (.slice none 0 0) [] l [] [] (w3.alloc (.cells #[.string nm, .slice none 0 0, .slice ta l.length tc, .slice none 0 0, .slice none 0 0] 36)) (k + 2 + 1000) from
    ⟨hc3.below ((Below.refl _ _).alloc (Nat.le_refl _) _) hc3.lt, (O2.out.trans ho3).alloc _, Box.new _ _ _, OwnG.nil, OwnG.alloc (OwnG.lower (OwnG.mono htr (fun q hq hl => ⟨Nat.lt_of_lt_of_le hr2 hq, hl⟩)) hr2) _, OwnG.nil, OwnG.nil, by omega, by omega, by simp, hgw, fun q hq => (htl q hq).2, fun q hq => by simp [Value.ownBlock] at hq, fun q hq => by simp [Value.ownBlock] at hq⟩)
  have R3 := Lib.hid (((R2.out.only ho3 (by omega))).alloc (.cells #[.string nm, .slice none 0 0, .slice ta l.length tc, .slice none 0 0, .slice none 0 0] 36))
  have hsz3 : w.heap.size < w3.heap.size := by omega
  clear hr2 htr C2 O2 R2 hc3 ho3 h23 h02 htl
  go_wp2_with fail
  generalize w3.alloc (.cells #[.string nm, .slice none 0 0, .slice ta l.length tc, .slice none 0 0, .slice none 0 0] 36) = w4 at *
  generalize w3.heap.size = bs at *
  apply onceT
  case rest =>
    intro key0
    have key := Lib.hid key0
    clear key0
    refine (cOne g _ 3 _ (by omega) (by omega) (by omega) S3.out.cur).mono ?_
    rintro e w5 ⟨b, rfl, hc5, ho5⟩
    have S5 := Lib.hid (S3.out.turn hc5 ho5)
    have R5 := Lib.hid (R3.out.only ho5 (by omega))
    clear hc5 ho5
    cases b
    rotate_left
    · have x1 : _ = some (Value.slice none 0 0) := S5.out.box.cell 1
      have x4 : _ = some (Value.slice none 0 0) := S5.out.box.cell 4
      have fb := S5.out.box.free
      have hlt := S5.out.box.lt
      go_wp2_with fail
      obtain ⟨W, iv, uv, ims, us, B, hW, SB, RB, hi1, hi2, hu1, hu2⟩ : ∃ W iv uv ims us B, W = _ ∧ Hid (Sc g bs B w nm iv (.slice ta l.length tc) uv (.slice none 0 0) ims l us [] W (k + 2 + 1000 + 2)) ∧ Hid (Box W w.heap.size 36 #[.string ⟨#[]⟩, .slice none 0 0, .slice none 0 0, .slice none 0 0, .slice none 0 0]) ∧ ims.length ≤ 1 ∧ (∀ x ∈ ims, x.size ≤ 20) ∧ us.length ≤ 1 ∧ (∀ u ∈ us, u.fMod.size ≤ 20 ∧ u.fName.size ≤ 20) :=
        ⟨_, _, _, _, _, _, rfl, Lib.hid S5.out.based, Lib.hid (R5.out.only (((((Only.refl bs w5).set _ _).set _ _).alloc _).alloc _) (by omega)), by decide, fun x hx => by rw [List.mem_singleton.1 hx]; decide, by decide, fun x hx => by rw [List.mem_singleton.1 hx]; decide⟩
      rw [show ByteArray.mk #[66, 97, 115, 101] = bBase from rfl, show ByteArray.mk #[120] = bX from rfl, ← hW]
      clear hW x1 x4 fb hlt S5 R5
      rename_i K2 hK2 K1 hK1 K0 hK0
      generalize Value.bool true = x14
      generalize Value.slice (some ⟨w5.heap.size, 0, none⟩) 1 1 = x15
      generalize Value.pointer (some ⟨bs, 1, none⟩) = x16
      generalize Value.agg #[.string bBase, .string bX] = x17
      generalize Value.slice (some ⟨w5.heap.size + 1, 0, none⟩) 1 1 = x18
      generalize Value.pointer (some ⟨bs, 4, none⟩) = x19
      revert SB RB hi1 hi2 hu1 hu2
      revert W iv uv ims us B
      revert x14 x15 x16 x17 x18 x19
      revert K0 K1 K2
      exact key.out
    · go_wp2_with fail
      rename_i K2 hK2 K1 hK1 K0 hK0
      exact key.out K2 hK2 K1 hK1 K0 hK0 _ _ _ _ _ _ w5 _ _ _ _ _ S5 R5 (by decide) (by simp) (by decide) (by simp)
  case heavy =>
    intro K2 hK2 K1 hK1 K0 hK0 x14 x15 x16 x17 x18 x19 W iv uv ims us B SB RB hi1 hi2 hu1 hu2
    clear S3 R3
    have hi1' := Lib.hid hi2
    have hu1' := Lib.hid hu2
    have HDR := Lib.hid hdr
    clear hi2 hu2 hdr
    refine (cPick g _ 6 _ (by omega) (by omega) (by omega) SB.out.cur).mono ?_
    rintro e w6 ⟨n0, ⟨hn0, hn1⟩, rfl, hc6, ho6⟩
    obtain ⟨n, rfl⟩ := Int.eq_ofNat_of_zero_le hn0
    have S6 := Lib.hid (SB.out.turn hc6 ho6)
    have R6 := Lib.hid (RB.out.only ho6 (by omega))
    clear SB RB hc6 ho6
    go_wp2_with fail
    go_loopw [4] (fun v wr => ∃ (m : Nat) (ov : Value) (os : List ObjectD), v = .int .i64 m ∧ m + os.length ≤ 5 ∧ Sc g bs B w nm iv (.slice ta l.length tc) uv ov ims l us os wr (k + 1006 + 60 * os.length) ∧ Box wr w.heap.size 36 #[.string ⟨#[]⟩, .slice none 0 0, .slice none 0 0, .slice none 0 0, .slice none 0 0] ∧ ∀ o ∈ os, drawnO o) (fun v _ => (intOf v).toNat)
    case atStart => exact ⟨n, _, [], rfl, by simp; omega, by simpa using S6.out, R6.out, by simp⟩
    case round =>
      obtain ⟨wp, hwp⟩ : ∃ z, z = wr := ⟨_, rfl⟩
      subst hwp
      obtain ⟨m, ov, os, rfl, hmo, hsc, hres, hos⟩ := hrel
      have SC := Lib.hid hsc
      have RS := Lib.hid hres
      have OS := Lib.hid hos
      clear hsc hres hos S6 R6
      by_cases hm : 0 < m
      · go_wp2_with fail
        refine (sl1Num _ _ (by omega) (by omega)).mono ?_
        rintro e w7 ⟨s2, hs2, rfl, hb7⟩
        replace SC := Lib.hid (SC.out.below hb7)
        replace RS := Lib.hid (RS.out.below hb7 RS.out.lt)
        have hz : ¬ 9223372036854775807 < (⟨#[111]⟩ : ByteArray).size + s2.size := by rw [hs2]; decide
        have HN := Lib.hid (show ((⟨#[111]⟩ : ByteArray) ++ s2).size ≤ 20 by rw [ByteArray.size_append, hs2]; decide)
        clear hb7 hs2
        go_wp2_with fail
        clear hz
        generalize (⟨#[111]⟩ : ByteArray) ++ s2 = on at *
        refine (cPick g _ 4 _ (by omega) (by omega) (by omega) SC.out.cur).mono ?_
        rintro e w8 ⟨x, ⟨hx0, hx1⟩, rfl, hc8, ho8⟩
        replace SC := Lib.hid (SC.out.turn hc8 ho8)
        replace RS := Lib.hid (RS.out.only ho8 (by omega))
        clear hc8 ho8
        go_wp2_with fail
        refine (cPick g _ 2 _ (by omega) (by omega) (by omega) SC.out.cur).mono ?_
        rintro e w9 ⟨y, ⟨hy0, hy1⟩, rfl, hc9, ho9⟩
        replace SC := Lib.hid (SC.out.turn hc9 ho9)
        replace RS := Lib.hid (RS.out.only ho9 (by omega))
        clear hc9 ho9
        rcases (show x = 0 ∨ x = 1 ∨ x = 2 ∨ x = 3 by omega) with rfl | rfl | rfl | rfl
        -- kinds
        · have SO := Lib.hid (show So g w9.heap.size w9 #[.string on, .int .i64 1, .int .i64 y, .int .i64 0, .int .i64 0, .slice none 0 0] (.slice none 0 0) [] (w9.alloc (.cells #[.string on, .int .i64 1, .int .i64 y, .int .i64 0, .int .i64 0, .slice none 0 0] 43)) (k + 1006 + 60 * os.length + 2 + 2) from
            ⟨SC.out.cur.below ((Below.refl _ _).alloc (Nat.le_refl _) _) SC.out.cur.lt, (Only.refl g w9).alloc _, Box.new _ _ _, OwnG.nil, Nat.le_refl _, SC.out.cur.lt, fun q h => by simp [Value.ownBlock] at h⟩)
          have c1 : _ = some (Value.int IntKind.i64 1) := SO.out.box.cell 1
          go_wp2_with fail
          generalize w9.alloc (.cells #[.string on, .int .i64 1, .int .i64 y, .int .i64 0, .int .i64 0, .slice none 0 0] 43) = w10 at *
          clear c1
          refine (cWhole g _ _ (by omega) SO.out.cur).mono ?_
          rintro e wa ⟨va, ⟨va0, va1⟩, rfl, hcx, hox⟩
          replace SO := Lib.hid (SO.out.pick hcx hox)
          clear hcx hox
          have SXb := Lib.hid (SC.out.turn SO.out.cur SO.out.on)
          have b3 : _ = some ov := SXb.out.box.cell 3
          have fb := SXb.out.box.free 3
          have blt := SXb.out.box.lt
          have bne := SC.out.box.lt
          obtain ⟨c0, c1, c2, c3, c4, c5⟩ := cells6T SO.out.box
          have fj := SO.out.box.free 4
          replace SO := Lib.hid (show So g w9.heap.size w9 #[.string on, .int .i64 1, .int .i64 y, .int .i64 0, .int .i64 va, .slice none 0 0] (.slice none 0 0) [] _ _ from SO.out.set 4 (.int .i64 va))
          have SX := Lib.hid (SC.out.turn SO.out.cur SO.out.on)
          have RX := Lib.hid (RS.out.only SO.out.on (by omega))
          have hpl := SX.out.objs.lt
          have hBw := SXb.out.hw
          have hbB := SX.out.hB
          obtain ⟨i0, hi, hz0, hz1, hz2⟩ := info_parts infoObject
          have Hi := Lib.hid (And.intro hi (And.intro hz0 (And.intro hz1 hz2)))
          have AT := Lib.hid (SO.out.at_ SC.out.objs SC.out.hw on 1 y 0 va)
          clear hi hz0 hz1 hz2
          go_wp2_with (at_builtin; refine wpList_pushG rfl _ _ _ rfl objectS 43 i0 (.agg #[.string ByteArray.empty, .int .i64 0, .int .i64 0, .int .i64 0, .int .i64 0, .slice none 0 0]) 72 Try.underlying33 ?q1 ?q2 ?q3 ?q4 rfl (by decide) (by omega) B (fun q => B ≤ q) _ _ os rfl ?q5 ⟨on, 1, y, 0, va, []⟩ [.string on, .int .i64 1, .int .i64 y, .int .i64 0, .int .i64 va, .slice none 0 0] _ _ rfl ?q6 ?q7 ?q8 ?q9 ?q10 ?_)
          case q1 => exact Hi.out.1
          case q2 => exact Hi.out.2.1
          case q3 => exact Hi.out.2.2.1
          case q4 => exact Hi.out.2.2.2
          case q5 => exact SX.out.objs.alloc _
          case q6 =>
            intro j _
            refine Eq.trans ((Box.new' (g := wa.heap.size) _ 43 #[.string on, .int .i64 1, .int .i64 y, .int .i64 0, .int .i64 va, .slice none 0 0] (by first | (simp; done) | (simp [World.setCell]; done))).cell j) ?_
            simp
          case q7 => exact objectS.keep AT.out (fun q _ hq => Below.heap_alloc _ _ q hq) (by simp)
          case q8 =>
            intro y hy
            simp only [List.mem_cons, List.not_mem_nil, or_false] at hy
            rcases hy with rfl | rfl | rfl | rfl | rfl | rfl <;> rfl
          case q9 => omega
          case q10 => simp; omega
          intro v9 wn hown9 hg9 _
          have SP := Lib.hid ((SX.out.alloc (.cells #[.string on, .int .i64 1, .int .i64 y, .int .i64 0, .int .i64 va, .slice none 0 0] 43)).push hown9 hg9)
          have RP := Lib.hid ((hg9.block w.heap.size (RX.out.alloc (.cells #[.string on, .int .i64 1, .int .i64 y, .int .i64 0, .int .i64 va, .slice none 0 0] 43)).lt (fun e => by have := (hpl w.heap.size e.symm).1; omega)).trans (RX.out.alloc (.cells #[.string on, .int .i64 1, .int .i64 y, .int .i64 0, .int .i64 va, .slice none 0 0] 43)) |> fun b : Box wn w.heap.size 36 #[.string ⟨#[]⟩, .slice none 0 0, .slice none 0 0, .slice none 0 0, .slice none 0 0] => b.only ((Only.refl bs wn).set 3 v9) (by omega))
          have fp : wn.frozen? ⟨bs, 3, none⟩ = false := by
            have := hg9.block bs (SX.out.alloc (.cells #[.string on, .int .i64 1, .int .i64 y, .int .i64 0, .int .i64 va, .slice none 0 0] 43)).box.lt (fun e => by have := (hpl bs e.symm).1; omega)
            exact Box.free (this.trans (SX.out.alloc (.cells #[.string on, .int .i64 1, .int .i64 y, .int .i64 0, .int .i64 va, .slice none 0 0] 43)).box) 3
          have cp : wn.cell? ⟨bs, 3, none⟩ = some ov := by
            have := hg9.block bs (SX.out.alloc (.cells #[.string on, .int .i64 1, .int .i64 y, .int .i64 0, .int .i64 va, .slice none 0 0] 43)).box.lt (fun e => by have := (hpl bs e.symm).1; omega)
            exact Box.cell (this.trans (SX.out.alloc (.cells #[.string on, .int .i64 1, .int .i64 y, .int .i64 0, .int .i64 va, .slice none 0 0] 43)).box) 3
          obtain ⟨ra, rc, rfl, _⟩ := OwnG.rows (Q := Any) hown9 (fun _ _ _ => trivial) (fun _ _ => trivial)
          rw [show (os ++ [(⟨on, 1, y, 0, va, []⟩ : ObjectD)]).length = os.length + 1 from by simp] at SP RP
          have OS9 := Lib.hid (show ∀ o ∈ os ++ [(⟨on, 1, y, 0, va, []⟩ : ObjectD)], drawnO o from fun o ho => by
            rcases List.mem_append.1 ho with ho | ho
            · exact OS.out o ho
            · rw [List.mem_singleton.1 ho]
              exact ⟨HN.out, Nat.zero_le 2, by simp⟩)
          clear hown9 hg9 SO SC RS SX RX AT SXb
          go_wp2_with fail
          exact ⟨⟨m - 1, .slice ra (os.length + 1) rc, os ++ [⟨on, 1, y, 0, va, []⟩], by congr 1; omega, by simp; omega, ⟨SP.out.cur.more (by simp; omega), SP.out.on, SP.out.box, SP.out.ims, SP.out.types, SP.out.uses, SP.out.objs, SP.out.lo, SP.out.hB, SP.out.hw, SP.out.g0, SP.out.tlt, SP.out.ilt, SP.out.ult⟩, RP.out, OS9.out⟩, by simp [intOf]; omega⟩
        · have SO := Lib.hid (show So g w9.heap.size w9 #[.string on, .int .i64 2, .int .i64 y, .int .i64 0, .int .i64 0, .slice none 0 0] (.slice none 0 0) [] (w9.alloc (.cells #[.string on, .int .i64 2, .int .i64 y, .int .i64 0, .int .i64 0, .slice none 0 0] 43)) (k + 1006 + 60 * os.length + 2 + 2) from
            ⟨SC.out.cur.below ((Below.refl _ _).alloc (Nat.le_refl _) _) SC.out.cur.lt, (Only.refl g w9).alloc _, Box.new _ _ _, OwnG.nil, Nat.le_refl _, SC.out.cur.lt, fun q h => by simp [Value.ownBlock] at h⟩)
          have c1 : _ = some (Value.int IntKind.i64 2) := SO.out.box.cell 1
          have t2 : _ = some (Value.slice ta l.length tc) := (SC.out.turn SO.out.cur SO.out.on).box.cell 2
          go_wp2_with fail
          generalize w9.alloc (.cells #[.string on, .int .i64 2, .int .i64 y, .int .i64 0, .int .i64 0, .slice none 0 0] 43) = w10 at *
          clear c1 t2
          refine (cPick g _ (l.length : Int) _ (by omega) (by omega) (by omega) SO.out.cur).mono ?_
          rintro e wq ⟨q, ⟨q0, q1⟩, rfl, hcx, hox⟩
          replace SO := Lib.hid (SO.out.pick hcx hox)
          clear hcx hox
          have SXb := Lib.hid (SC.out.turn SO.out.cur SO.out.on)
          have b3 : _ = some ov := SXb.out.box.cell 3
          have fb := SXb.out.box.free 3
          have blt := SXb.out.box.lt
          have bne := SC.out.box.lt
          obtain ⟨c0, c1, c2, c3, c4, c5⟩ := cells6T SO.out.box
          have fj := SO.out.box.free 3
          replace SO := Lib.hid (show So g w9.heap.size w9 #[.string on, .int .i64 2, .int .i64 y, .int .i64 q, .int .i64 0, .slice none 0 0] (.slice none 0 0) [] _ _ from SO.out.set 3 (.int .i64 q))
          have SX := Lib.hid (SC.out.turn SO.out.cur SO.out.on)
          have RX := Lib.hid (RS.out.only SO.out.on (by omega))
          have hpl := SX.out.objs.lt
          have hBw := SXb.out.hw
          have hbB := SX.out.hB
          obtain ⟨i0, hi, hz0, hz1, hz2⟩ := info_parts infoObject
          have Hi := Lib.hid (And.intro hi (And.intro hz0 (And.intro hz1 hz2)))
          have AT := Lib.hid (SO.out.at_ SC.out.objs SC.out.hw on 2 y q 0)
          clear hi hz0 hz1 hz2
          go_wp2_with (at_builtin; refine wpList_pushG rfl _ _ _ rfl objectS 43 i0 (.agg #[.string ByteArray.empty, .int .i64 0, .int .i64 0, .int .i64 0, .int .i64 0, .slice none 0 0]) 72 Try.underlying33 ?q1 ?q2 ?q3 ?q4 rfl (by decide) (by omega) B (fun q => B ≤ q) _ _ os rfl ?q5 ⟨on, 2, y, q, 0, []⟩ [.string on, .int .i64 2, .int .i64 y, .int .i64 q, .int .i64 0, .slice none 0 0] _ _ rfl ?q6 ?q7 ?q8 ?q9 ?q10 ?_)
          case q1 => exact Hi.out.1
          case q2 => exact Hi.out.2.1
          case q3 => exact Hi.out.2.2.1
          case q4 => exact Hi.out.2.2.2
          case q5 => exact SX.out.objs.alloc _
          case q6 =>
            intro j _
            refine Eq.trans ((Box.new' (g := wq.heap.size) _ 43 #[.string on, .int .i64 2, .int .i64 y, .int .i64 q, .int .i64 0, .slice none 0 0] (by first | (simp; done) | (simp [World.setCell]; done))).cell j) ?_
            simp
          case q7 => exact objectS.keep AT.out (fun q _ hq => Below.heap_alloc _ _ q hq) (by simp)
          case q8 =>
            intro y hy
            simp only [List.mem_cons, List.not_mem_nil, or_false] at hy
            rcases hy with rfl | rfl | rfl | rfl | rfl | rfl <;> rfl
          case q9 => omega
          case q10 => simp; omega
          intro v9 wn hown9 hg9 _
          have SP := Lib.hid ((SX.out.alloc (.cells #[.string on, .int .i64 2, .int .i64 y, .int .i64 q, .int .i64 0, .slice none 0 0] 43)).push hown9 hg9)
          have RP := Lib.hid ((hg9.block w.heap.size (RX.out.alloc (.cells #[.string on, .int .i64 2, .int .i64 y, .int .i64 q, .int .i64 0, .slice none 0 0] 43)).lt (fun e => by have := (hpl w.heap.size e.symm).1; omega)).trans (RX.out.alloc (.cells #[.string on, .int .i64 2, .int .i64 y, .int .i64 q, .int .i64 0, .slice none 0 0] 43)) |> fun b : Box wn w.heap.size 36 #[.string ⟨#[]⟩, .slice none 0 0, .slice none 0 0, .slice none 0 0, .slice none 0 0] => b.only ((Only.refl bs wn).set 3 v9) (by omega))
          have fp : wn.frozen? ⟨bs, 3, none⟩ = false := by
            have := hg9.block bs (SX.out.alloc (.cells #[.string on, .int .i64 2, .int .i64 y, .int .i64 q, .int .i64 0, .slice none 0 0] 43)).box.lt (fun e => by have := (hpl bs e.symm).1; omega)
            exact Box.free (this.trans (SX.out.alloc (.cells #[.string on, .int .i64 2, .int .i64 y, .int .i64 q, .int .i64 0, .slice none 0 0] 43)).box) 3
          have cp : wn.cell? ⟨bs, 3, none⟩ = some ov := by
            have := hg9.block bs (SX.out.alloc (.cells #[.string on, .int .i64 2, .int .i64 y, .int .i64 q, .int .i64 0, .slice none 0 0] 43)).box.lt (fun e => by have := (hpl bs e.symm).1; omega)
            exact Box.cell (this.trans (SX.out.alloc (.cells #[.string on, .int .i64 2, .int .i64 y, .int .i64 q, .int .i64 0, .slice none 0 0] 43)).box) 3
          obtain ⟨ra, rc, rfl, _⟩ := OwnG.rows (Q := Any) hown9 (fun _ _ _ => trivial) (fun _ _ => trivial)
          rw [show (os ++ [(⟨on, 2, y, q, 0, []⟩ : ObjectD)]).length = os.length + 1 from by simp] at SP RP
          have OS9 := Lib.hid (show ∀ o ∈ os ++ [(⟨on, 2, y, q, 0, []⟩ : ObjectD)], drawnO o from fun o ho => by
            rcases List.mem_append.1 ho with ho | ho
            · exact OS.out o ho
            · rw [List.mem_singleton.1 ho]
              exact ⟨HN.out, Nat.zero_le 2, by simp⟩)
          clear hown9 hg9 SO SC RS SX RX AT SXb
          go_wp2_with fail
          exact ⟨⟨m - 1, .slice ra (os.length + 1) rc, os ++ [⟨on, 2, y, q, 0, []⟩], by congr 1; omega, by simp; omega, ⟨SP.out.cur.more (by simp; omega), SP.out.on, SP.out.box, SP.out.ims, SP.out.types, SP.out.uses, SP.out.objs, SP.out.lo, SP.out.hB, SP.out.hw, SP.out.g0, SP.out.tlt, SP.out.ilt, SP.out.ult⟩, RP.out, OS9.out⟩, by simp [intOf]; omega⟩
        · have SO := Lib.hid (show So g w9.heap.size w9 #[.string on, .int .i64 3, .int .i64 y, .int .i64 0, .int .i64 0, .slice none 0 0] (.slice none 0 0) [] (w9.alloc (.cells #[.string on, .int .i64 3, .int .i64 y, .int .i64 0, .int .i64 0, .slice none 0 0] 43)) (k + 1006 + 60 * os.length + 2 + 2) from
            ⟨SC.out.cur.below ((Below.refl _ _).alloc (Nat.le_refl _) _) SC.out.cur.lt, (Only.refl g w9).alloc _, Box.new _ _ _, OwnG.nil, Nat.le_refl _, SC.out.cur.lt, fun q h => by simp [Value.ownBlock] at h⟩)
          have c1 : _ = some (Value.int IntKind.i64 3) := SO.out.box.cell 1
          have t2 : _ = some (Value.slice ta l.length tc) := (SC.out.turn SO.out.cur SO.out.on).box.cell 2
          go_wp2_with fail
          generalize w9.alloc (.cells #[.string on, .int .i64 3, .int .i64 y, .int .i64 0, .int .i64 0, .slice none 0 0] 43) = w10 at *
          clear c1 t2
          refine (cPick g _ (l.length : Int) _ (by omega) (by omega) (by omega) SO.out.cur).mono ?_
          rintro e wq ⟨q, ⟨q0, q1⟩, rfl, hcx, hox⟩
          replace SO := Lib.hid (SO.out.pick hcx hox)
          clear hcx hox
          have cj : _ = some (Value.int IntKind.i64 0) := SO.out.box.cell 3
          have fcj := SO.out.box.free 3
          have c1 : _ = some (Value.int IntKind.i64 3) := SO.out.box.cell 1
          go_wp2_with fail
          clear cj fcj c1
          replace SO := Lib.hid (show So g w9.heap.size w9 #[.string on, .int .i64 3, .int .i64 y, .int .i64 q, .int .i64 0, .slice none 0 0] (.slice none 0 0) [] _ _ from SO.out.set 3 (.int .i64 q))
          generalize wq.setCell ⟨w9.heap.size, 3, none⟩ (.int .i64 q) = Wq at *
          refine (cPick g _ 3 _ (by omega) (by omega) (by omega) SO.out.cur).mono ?_
          rintro e wr ⟨r, ⟨r0, r1⟩, rfl, hcx, hox⟩
          replace SO := Lib.hid (SO.out.pick hcx hox)
          clear hcx hox
          have SXb := Lib.hid (SC.out.turn SO.out.cur SO.out.on)
          have b3 : _ = some ov := SXb.out.box.cell 3
          have fb := SXb.out.box.free 3
          have blt := SXb.out.box.lt
          have bne := SC.out.box.lt
          obtain ⟨c0, c1, c2, c3, c4, c5⟩ := cells6T SO.out.box
          have fj := SO.out.box.free 2
          replace SO := Lib.hid (show So g w9.heap.size w9 #[.string on, .int .i64 3, .int .i64 r, .int .i64 q, .int .i64 0, .slice none 0 0] (.slice none 0 0) [] _ _ from SO.out.set 2 (.int .i64 r))
          have SX := Lib.hid (SC.out.turn SO.out.cur SO.out.on)
          have RX := Lib.hid (RS.out.only SO.out.on (by omega))
          have hpl := SX.out.objs.lt
          have hBw := SXb.out.hw
          have hbB := SX.out.hB
          obtain ⟨i0, hi, hz0, hz1, hz2⟩ := info_parts infoObject
          have Hi := Lib.hid (And.intro hi (And.intro hz0 (And.intro hz1 hz2)))
          have AT := Lib.hid (SO.out.at_ SC.out.objs SC.out.hw on 3 r q 0)
          clear hi hz0 hz1 hz2
          go_wp2_with (at_builtin; refine wpList_pushG rfl _ _ _ rfl objectS 43 i0 (.agg #[.string ByteArray.empty, .int .i64 0, .int .i64 0, .int .i64 0, .int .i64 0, .slice none 0 0]) 72 Try.underlying33 ?q1 ?q2 ?q3 ?q4 rfl (by decide) (by omega) B (fun q => B ≤ q) _ _ os rfl ?q5 ⟨on, 3, r, q, 0, []⟩ [.string on, .int .i64 3, .int .i64 r, .int .i64 q, .int .i64 0, .slice none 0 0] _ _ rfl ?q6 ?q7 ?q8 ?q9 ?q10 ?_)
          case q1 => exact Hi.out.1
          case q2 => exact Hi.out.2.1
          case q3 => exact Hi.out.2.2.1
          case q4 => exact Hi.out.2.2.2
          case q5 => exact SX.out.objs.alloc _
          case q6 =>
            intro j _
            refine Eq.trans ((Box.new' (g := wr.heap.size) _ 43 #[.string on, .int .i64 3, .int .i64 r, .int .i64 q, .int .i64 0, .slice none 0 0] (by first | (simp; done) | (simp [World.setCell]; done))).cell j) ?_
            simp
          case q7 => exact objectS.keep AT.out (fun q _ hq => Below.heap_alloc _ _ q hq) (by simp)
          case q8 =>
            intro y hy
            simp only [List.mem_cons, List.not_mem_nil, or_false] at hy
            rcases hy with rfl | rfl | rfl | rfl | rfl | rfl <;> rfl
          case q9 => omega
          case q10 => simp; omega
          intro v9 wn hown9 hg9 _
          have SP := Lib.hid ((SX.out.alloc (.cells #[.string on, .int .i64 3, .int .i64 r, .int .i64 q, .int .i64 0, .slice none 0 0] 43)).push hown9 hg9)
          have RP := Lib.hid ((hg9.block w.heap.size (RX.out.alloc (.cells #[.string on, .int .i64 3, .int .i64 r, .int .i64 q, .int .i64 0, .slice none 0 0] 43)).lt (fun e => by have := (hpl w.heap.size e.symm).1; omega)).trans (RX.out.alloc (.cells #[.string on, .int .i64 3, .int .i64 r, .int .i64 q, .int .i64 0, .slice none 0 0] 43)) |> fun b : Box wn w.heap.size 36 #[.string ⟨#[]⟩, .slice none 0 0, .slice none 0 0, .slice none 0 0, .slice none 0 0] => b.only ((Only.refl bs wn).set 3 v9) (by omega))
          have fp : wn.frozen? ⟨bs, 3, none⟩ = false := by
            have := hg9.block bs (SX.out.alloc (.cells #[.string on, .int .i64 3, .int .i64 r, .int .i64 q, .int .i64 0, .slice none 0 0] 43)).box.lt (fun e => by have := (hpl bs e.symm).1; omega)
            exact Box.free (this.trans (SX.out.alloc (.cells #[.string on, .int .i64 3, .int .i64 r, .int .i64 q, .int .i64 0, .slice none 0 0] 43)).box) 3
          have cp : wn.cell? ⟨bs, 3, none⟩ = some ov := by
            have := hg9.block bs (SX.out.alloc (.cells #[.string on, .int .i64 3, .int .i64 r, .int .i64 q, .int .i64 0, .slice none 0 0] 43)).box.lt (fun e => by have := (hpl bs e.symm).1; omega)
            exact Box.cell (this.trans (SX.out.alloc (.cells #[.string on, .int .i64 3, .int .i64 r, .int .i64 q, .int .i64 0, .slice none 0 0] 43)).box) 3
          obtain ⟨ra, rc, rfl, _⟩ := OwnG.rows (Q := Any) hown9 (fun _ _ _ => trivial) (fun _ _ => trivial)
          rw [show (os ++ [(⟨on, 3, r, q, 0, []⟩ : ObjectD)]).length = os.length + 1 from by simp] at SP RP
          have OS9 := Lib.hid (show ∀ o ∈ os ++ [(⟨on, 3, r, q, 0, []⟩ : ObjectD)], drawnO o from fun o ho => by
            rcases List.mem_append.1 ho with ho | ho
            · exact OS.out o ho
            · rw [List.mem_singleton.1 ho]
              exact ⟨HN.out, Nat.zero_le 2, by simp⟩)
          clear hown9 hg9 SO SC RS SX RX AT SXb
          go_wp2_with fail
          exact ⟨⟨m - 1, .slice ra (os.length + 1) rc, os ++ [⟨on, 3, r, q, 0, []⟩], by congr 1; omega, by simp; omega, ⟨SP.out.cur.more (by simp; omega), SP.out.on, SP.out.box, SP.out.ims, SP.out.types, SP.out.uses, SP.out.objs, SP.out.lo, SP.out.hB, SP.out.hw, SP.out.g0, SP.out.tlt, SP.out.ilt, SP.out.ult⟩, RP.out, OS9.out⟩, by simp [intOf]; omega⟩
        · have SO := Lib.hid (show So g w9.heap.size w9 #[.string on, .int .i64 4, .int .i64 y, .int .i64 0, .int .i64 0, .slice none 0 0] (.slice none 0 0) [] (w9.alloc (.cells #[.string on, .int .i64 4, .int .i64 y, .int .i64 0, .int .i64 0, .slice none 0 0] 43)) (k + 1006 + 60 * os.length + 2 + 2) from
            ⟨SC.out.cur.below ((Below.refl _ _).alloc (Nat.le_refl _) _) SC.out.cur.lt, (Only.refl g w9).alloc _, Box.new _ _ _, OwnG.nil, Nat.le_refl _, SC.out.cur.lt, fun q h => by simp [Value.ownBlock] at h⟩)
          have c1 : _ = some (Value.int IntKind.i64 4) := SO.out.box.cell 1
          have t2 : _ = some (Value.slice ta l.length tc) := (SC.out.turn SO.out.cur SO.out.on).box.cell 2
          go_wp2_with fail
          generalize w9.alloc (.cells #[.string on, .int .i64 4, .int .i64 y, .int .i64 0, .int .i64 0, .slice none 0 0] 43) = w10 at *
          clear c1 t2
          refine (cPick g _ (l.length : Int) _ (by omega) (by omega) (by omega) SO.out.cur).mono ?_
          rintro e wq ⟨q, ⟨q0, q1⟩, rfl, hcx, hox⟩
          replace SO := Lib.hid (SO.out.pick hcx hox)
          clear hcx hox
          have cj : _ = some (Value.int IntKind.i64 0) := SO.out.box.cell 3
          have fcj := SO.out.box.free 3
          have c1 : _ = some (Value.int IntKind.i64 4) := SO.out.box.cell 1
          have t2 : _ = some (Value.slice ta l.length tc) := (SC.out.turn SO.out.cur SO.out.on).box.cell 2
          have bne := SC.out.box.lt
          go_wp2_with fail
          clear cj fcj c1 t2
          replace SO := Lib.hid (show So g w9.heap.size w9 #[.string on, .int .i64 4, .int .i64 y, .int .i64 q, .int .i64 0, .slice none 0 0] (.slice none 0 0) [] _ _ from SO.out.set 3 (.int .i64 q))
          generalize wq.setCell ⟨w9.heap.size, 3, none⟩ (.int .i64 q) = Wq at *
          refine (cPick g _ ((l.length : Int) + 1) _ (by omega) (by omega) (by omega) SO.out.cur).mono ?_
          rintro e wr ⟨r, ⟨r0, r1⟩, rfl, hcx, hox⟩
          replace SO := Lib.hid (SO.out.pick hcx hox)
          clear hcx hox
          have cj : _ = some (Value.int IntKind.i64 q) := SO.out.box.cell 3
          have fcj := SO.out.box.free 3
          go_wp2_with fail
          clear cj fcj
          replace SO := Lib.hid (show So g w9.heap.size w9 #[.string on, .int .i64 4, .int .i64 y, .int .i64 (r - 1), .int .i64 0, .slice none 0 0] (.slice none 0 0) [] _ _ from SO.out.set 3 (.int .i64 (r - 1)))
          generalize wr.setCell ⟨w9.heap.size, 3, none⟩ (.int .i64 (r - 1)) = Wr at *
          refine (cPick g _ 3 _ (by omega) (by omega) (by omega) SO.out.cur).mono ?_
          rintro e wz ⟨z, ⟨z0, z1⟩, rfl, hcx, hox⟩
          replace SO := Lib.hid (SO.out.pick hcx hox)
          clear hcx hox
          obtain ⟨m0, rfl⟩ := Int.eq_ofNat_of_zero_le z0
          go_wp2_with fail
          go_loopw [6] (fun v wl => ∃ (mm : Nat) (pv : Value) (ps : List ParamD), v = .int .i64 mm ∧ mm ≤ 2 ∧ ps.length + mm ≤ 2 ∧ So g w9.heap.size w9 #[.string on, .int .i64 4, .int .i64 y, .int .i64 (r - 1), .int .i64 0, pv] pv ps wl (k + 1006 + 60 * os.length + 10 + 10 * (2 - mm)) ∧ (∀ f ∈ ps, f.fName.size ≤ 20)) (fun v _ => (intOf v).toNat)
          case atStart => exact ⟨m0, .slice none 0 0, [], rfl, by omega, by show 0 + m0 ≤ 2; omega, ⟨SO.out.cur.more (by omega), SO.out.on, SO.out.box, SO.out.own, SO.out.lo, SO.out.g0, SO.out.ne⟩, fun _ h => absurd h (by simp)⟩
          case round =>
            clear SO
            obtain ⟨wl, hwl⟩ : ∃ z, z = wr := ⟨_, rfl⟩
            subst hwl
            obtain ⟨mm, pv, ps, rfl, hm3, hfm, hst, hfn⟩ := hrel
            have SO := Lib.hid hst
            have HFN := Lib.hid hfn
            clear hst hfn
            by_cases hm0 : 0 < mm
            · go_wp2_with fail
              have hsl := SO.out.on.size
              have d0 : _ = some pv := SO.out.box.cell 5
              have t0 : _ = some (Value.slice ta l.length tc) := (SC.out.turn SO.out.cur SO.out.on).box.cell 2
              obtain ⟨j0, hj, hy0, hy1, hy2⟩ := info_parts infoParam
              refine wp_region_held_drew (S := fun w' => w'.cell? ⟨bs, 2, none⟩ = some (.slice ta l.length tc)) (by kernel_rfl) ?_ (fun hHeld => ?_)
              · exact t0
              refine wpAnyH_take (i := 0) (oi := { dst := some 72, op := Op.fieldAddr 43 (Operand.tmp 5) 5, type := 0, pos := "l4_scope.go:319", after := #[], guard := none }) (v := .pointer (some ⟨w9.heap.size, 5, none⟩)) rfl (by kernel_rfl) (by kernel_rfl) (by kernel_rfl) (fun _ _ _ h => h) (Or.inl ⟨by rfl, ?_⟩) (by assumption) ?_
              · intro wS hSw
                try dsimp only at hSw
                go_simp
              try simp only [Act.put, List.setIfInBounds_toArray, List.set_cons_zero, List.set_cons_succ]
              refine wpAnyH_take (i := 2) (oi := { dst := some 74, op := Op.move (Operand.tmp 6), type := 3, pos := "l4_scope.go:319", after := #[], guard := none }) (v := .int .i64 (mm : Int)) rfl (by kernel_rfl) (by kernel_rfl) (by kernel_rfl) (fun _ _ _ h => h) (Or.inl ⟨by rfl, ?_⟩) (by assumption) ?_
              · intro wS hSw
                try dsimp only at hSw
                go_simp
              try simp only [Act.put, List.setIfInBounds_toArray, List.set_cons_zero, List.set_cons_succ]
              refine wpAnyH_take (i := 5) (oi := { dst := some 77, op := Op.move (Operand.tmp 0), type := 52, pos := "l4_scope.go:319", after := #[], guard := none }) (v := .pointer (some ⟨g, 0, none⟩)) rfl (by kernel_rfl) (by kernel_rfl) (by kernel_rfl) (fun _ _ _ h => h) (Or.inl ⟨by rfl, ?_⟩) (by assumption) ?_
              · intro wS hSw
                try dsimp only at hSw
                go_simp
              try simp only [Act.put, List.setIfInBounds_toArray, List.set_cons_zero, List.set_cons_succ]
              refine wpAnyH_take (i := 7) (oi := { dst := some 79, op := Op.move (Operand.tmp 0), type := 52, pos := "l4_scope.go:319", after := #[], guard := none }) (v := .pointer (some ⟨g, 0, none⟩)) rfl (by kernel_rfl) (by kernel_rfl) (by kernel_rfl) (fun _ _ _ h => h) (Or.inl ⟨by rfl, ?_⟩) (by assumption) ?_
              · intro wS hSw
                try dsimp only at hSw
                go_simp
              try simp only [Act.put, List.setIfInBounds_toArray, List.set_cons_zero, List.set_cons_succ]
              refine wpAnyH_take (i := 8) (oi := { dst := some 80, op := Op.fieldAddr 36 (Operand.tmp 3) 2, type := 0, pos := "l4_scope.go:319", after := #[], guard := none }) (v := .pointer (some ⟨bs, 2, none⟩)) rfl (by kernel_rfl) (by kernel_rfl) (by kernel_rfl) (fun _ _ _ h => h) (Or.inl ⟨by rfl, ?_⟩) (by assumption) ?_
              · intro wS hSw
                try dsimp only at hSw
                go_simp
              try simp only [Act.put, List.setIfInBounds_toArray, List.set_cons_zero, List.set_cons_succ]
              refine wpAnyH_take (i := 9) (oi := { dst := some 81, op := Op.load 24 (Operand.tmp 80), type := 24, pos := "l4_scope.go:319", after := #[{ on := 8, ground := Ground.data }], guard := none }) (v := .slice ta l.length tc) rfl (by kernel_rfl) (by kernel_rfl) (by kernel_rfl) (fun _ _ _ h => h) (Or.inl ⟨by rfl, ?_⟩) (by assumption) ?_
              · intro wS hSw
                try dsimp only at hSw
                go_simp
              try simp only [Act.put, List.setIfInBounds_toArray, List.set_cons_zero, List.set_cons_succ]
              refine wpAnyH_take (i := 10) (oi := { dst := some 82, op := Op.call { callee := Callee.builtin Builtin.len, args := #[Operand.tmp 81], argTypes := #[24] }, type := 3, pos := "l4_scope.go:319", after := #[{ on := 9, ground := Ground.data }], guard := none }) (v := .int .i64 (l.length : Int)) rfl (by kernel_rfl) (by kernel_rfl) (by kernel_rfl) (fun _ _ _ h => h) (Or.inl ⟨by rfl, ?_⟩) (by assumption) ?_
              · intro wS hSw
                try dsimp only at hSw
                go_simp
              try simp only [Act.put, List.setIfInBounds_toArray, List.set_cons_zero, List.set_cons_succ]
              refine wpAnyH_ready (rs := [1, 3]) (by kernel_rfl) (by simp) ?_
              refine AllReadyH.cons (o := { dst := some 73, op := Op.load 41 (Operand.tmp 72), type := 41, pos := "l4_scope.go:319", after := #[{ on := 0, ground := Ground.data }], guard := none }) rfl (fun K hK => ?_) (AllReadyH.cons (o := { dst := some 75, op := Op.call { callee := Callee.value (Operand.func 77), args := #[Operand.tmp 74], argTypes := #[3] }, type := 9, pos := "l4_scope.go:319", after := #[{ on := 2, ground := Ground.data }], guard := none }) rfl (fun K hK => ?_) AllReadyH.nil)
              · go_simp
                refine hK.out _ _ ?_ (fun hHeld2 => ?_)
                · try dsimp only
                  assumption
                clear hK K hHeld
                have hHeld := hHeld2
                clear hHeld2
                try simp only [Act.put, List.setIfInBounds_toArray, List.set_cons_zero, List.set_cons_succ]
                refine wpAnyH_ready (rs := [3]) (by kernel_rfl) (by simp) ?_
                refine AllReadyH.cons (o := { dst := some 75, op := Op.call { callee := Callee.value (Operand.func 77), args := #[Operand.tmp 74], argTypes := #[3] }, type := 9, pos := "l4_scope.go:319", after := #[{ on := 2, ground := Ground.data }], guard := none }) rfl (fun K hK => ?_) AllReadyH.nil
                go_simp
                go_at_call 77
                refine (sl1Num _ _ (by omega) (by omega)).mono ?_
                rintro e wa ⟨s1, hs1, rfl, hba⟩
                have hbd : Below wl.heap.size wl wa := ⟨hba.os, hba.tape, hba.output, hba.size, hba.block⟩
                have STa := Lib.hid (SO.out.below hbd)
                have da : _ = some pv := STa.out.box.cell 5
                have hz : ¬ 9223372036854775807 < (⟨#[112]⟩ : ByteArray).size + s1.size := (by (rw [hs1]; decide))
                have hz2 : ¬ 9223372036854775807 < 1 + s1.size := (by omega)
                have Hs1 := Lib.hid hs1
                clear hba hbd hs1
                refine hK.out _ _ ?_ (fun hHeld2 => ?_)
                · try dsimp only
                  exact (SC.out.turn STa.out.cur STa.out.on).box.cell 2
                clear hK K hHeld
                have hHeld := hHeld2
                clear hHeld2
                try simp only [Act.put, List.setIfInBounds_toArray, List.set_cons_zero, List.set_cons_succ]
                refine wpAnyH_take (i := 4) (oi := { dst := some 76, op := Op.binOp BinOp.add 9 (Operand.const (Value.string { data := #[112] })) (Operand.tmp 75) 9, type := 9, pos := "l4_scope.go:319", after := #[{ on := 3, ground := Ground.data }], guard := none }) (v := .string ((⟨#[112]⟩ : ByteArray) ++ s1)) rfl (by kernel_rfl) (by kernel_rfl) (by kernel_rfl) (fun _ _ _ h => h) (Or.inl ⟨by rfl, ?_⟩) (by assumption) ?_
                · intro wS hSw
                  try dsimp only at hSw
                  go_simp
                try simp only [Act.put, List.setIfInBounds_toArray, List.set_cons_zero, List.set_cons_succ]
                refine wpAnyH_ready (rs := [6]) (by kernel_rfl) (by simp) ?_
                refine AllReadyH.cons (o := { dst := some 78, op := Op.call { callee := Callee.value (Operand.func 28), args := #[Operand.tmp 77, Operand.const (Value.int IntKind.i64 2)], argTypes := #[52, 3] }, type := 4, pos := "l4_scope.go:319", after := #[{ on := 5, ground := Ground.data }, { on := 3, ground := Ground.chain }], guard := none }) rfl (fun K hK => ?_) AllReadyH.nil
                go_simp
                go_at_call 28
                refine (cOne g _ 2 _ (by omega) (by omega) (by omega) STa.out.cur).mono ?_
                rintro e wb ⟨p1, rfl, hcb, hob⟩
                have STb := Lib.hid (STa.out.pick hcb hob)
                have db : _ = some pv := STb.out.box.cell 5
                clear hcb hob
                refine hK.out _ _ ?_ (fun hHeld2 => ?_)
                · try dsimp only
                  exact (SC.out.turn STb.out.cur STb.out.on).box.cell 2
                clear hK K hHeld
                have hHeld := hHeld2
                clear hHeld2
                try simp only [Act.put, List.setIfInBounds_toArray, List.set_cons_zero, List.set_cons_succ]
                refine wpAnyH_ready (rs := [11]) (by kernel_rfl) (by simp) ?_
                refine AllReadyH.cons (o := { dst := some 83, op := Op.call { callee := Callee.value (Operand.func 19), args := #[Operand.tmp 79, Operand.tmp 82], argTypes := #[52, 3] }, type := 3, pos := "l4_scope.go:319", after := #[{ on := 7, ground := Ground.data }, { on := 10, ground := Ground.data }, { on := 6, ground := Ground.chain }], guard := none }) rfl (fun K hK => ?_) AllReadyH.nil
                go_simp
                go_at_call 19
                refine (cPick g _ (l.length : Int) _ (by omega) (by omega) (by omega) STb.out.cur).mono ?_
                rintro e wc ⟨p2, ⟨p20, p21⟩, rfl, hcc, hoc⟩
                have STc := Lib.hid (STb.out.pick hcc hoc)
                have dc : _ = some pv := STc.out.box.cell 5
                have dd : ∀ ob, (wc.alloc ob).cell? ⟨w9.heap.size, 5, none⟩ = some pv := (fun ob => (STc.out.alloc ob).box.cell 5)
                have hsc := STc.out.on.size
                clear hcc hoc
                refine hK.out _ _ ?_ (fun hHeld2 => ?_)
                · try dsimp only
                  exact (SC.out.turn STc.out.cur STc.out.on).box.cell 2
                clear hK K hHeld
                have hHeld := hHeld2
                clear hHeld2
                try simp only [Act.put, List.setIfInBounds_toArray, List.set_cons_zero, List.set_cons_succ]
                refine wpAnyH_take (i := 12) (oi := { dst := some 84, op := Op.build 45 #[(0, Operand.tmp 76), (1, Operand.tmp 78), (2, Operand.tmp 83)], type := 45, pos := "l4_scope.go:319", after := #[{ on := 4, ground := Ground.data }, { on := 6, ground := Ground.data }, { on := 11, ground := Ground.data }], guard := none }) (v := .agg #[.string ((⟨#[112]⟩ : ByteArray) ++ s1), .bool p1, .int .i64 p2]) rfl (by kernel_rfl) (by kernel_rfl) (by kernel_rfl) (fun _ _ _ h => h) (Or.inl ⟨by rfl, ?_⟩) (by assumption) ?_
                · intro wS hSw
                  try dsimp only at hSw
                  go_simp
                try simp only [Act.put, List.setIfInBounds_toArray, List.set_cons_zero, List.set_cons_succ]
                refine wpAnyH_ready (rs := [13]) (by kernel_rfl) (by simp) ?_
                refine AllReadyH.cons (o := { dst := some 85, op := Op.buildSlice 41 1 #[(0, Operand.tmp 84)], type := 41, pos := "l4_scope.go:319", after := #[{ on := 12, ground := Ground.data }], guard := none }) rfl (fun K hK => ?_) AllReadyH.nil
                go_simp
                refine hK.out _ _ ?_ (fun hHeld2 => ?_)
                · try dsimp only
                  exact ((SC.out.turn STc.out.cur STc.out.on).alloc _).box.cell 2
                clear hK K hHeld
                have hHeld := hHeld2
                clear hHeld2
                try simp only [Act.put, List.setIfInBounds_toArray, List.set_cons_zero, List.set_cons_succ]
                refine wpAnyH_ready (rs := [14]) (by kernel_rfl) (by simp) ?_
                refine AllReadyH.cons (o := { dst := some 86, op := Op.call { callee := Callee.builtin Builtin.append, args := #[Operand.tmp 73, Operand.tmp 85], argTypes := #[41, 41] }, type := 41, pos := "l4_scope.go:319", after := #[{ on := 1, ground := Ground.data }, { on := 13, ground := Ground.data }, { on := 11, ground := Ground.chain }], guard := none }) rfl (fun K hK => ?_) AllReadyH.nil
                refine step_pushG rfl _ _ _ rfl paramS 45 j0 (.agg #[.string ByteArray.empty, .bool false, .int .i64 0]) 32 Try.underlying41 hj hy0 hy1 hy2 rfl (by decide) (by omega) w9.heap.size Nowhere _ _ ps rfl ((STc.out.alloc _).own) ⟨(⟨#[112]⟩ : ByteArray) ++ s1, p1, p2⟩ [.string ((⟨#[112]⟩ : ByteArray) ++ s1), .bool p1, .int .i64 p2] _ _ rfl (fun jj _ => Eq.trans ((Box.new' (g := wc.heap.size) _ 45 #[.string ((⟨#[112]⟩ : ByteArray) ++ s1), .bool p1, .int .i64 p2] (by simp)).cell jj) (by simp)) rfl (fun y hy => by (simp only [List.mem_cons, List.not_mem_nil, or_false] at hy; rcases hy with rfl | rfl | rfl <;> rfl)) (by omega) (by simp; omega) ?_
                intro va vn vc w4' hown4 hg4 hv4
                have STd := Lib.hid ((STc.out.alloc _).push hown4 hg4 hv4)
                have de : _ = some pv := STd.out.box.cell 5
                have df := STd.out.box.free 5
                clear hown4 hg4 hv4
                refine hK.out _ _ ?_ (fun hHeld2 => ?_)
                · try dsimp only
                  exact (SC.out.turn STd.out.cur STd.out.on).box.cell 2
                clear hK K hHeld
                have hHeld := hHeld2
                clear hHeld2
                try simp only [Act.put, List.setIfInBounds_toArray, List.set_cons_zero, List.set_cons_succ]
                refine wpAnyH_take (i := 15) (oi := { dst := some 87, op := Op.fieldAddr 43 (Operand.tmp 5) 5, type := 0, pos := "l4_scope.go:319", after := #[{ on := 0, ground := Ground.phase }, { on := 1, ground := Ground.phase }, { on := 2, ground := Ground.phase }, { on := 3, ground := Ground.phase }, { on := 4, ground := Ground.phase }, { on := 5, ground := Ground.phase }, { on := 6, ground := Ground.phase }, { on := 7, ground := Ground.phase }, { on := 8, ground := Ground.phase }, { on := 9, ground := Ground.phase }, { on := 10, ground := Ground.phase }, { on := 11, ground := Ground.phase }, { on := 12, ground := Ground.phase }, { on := 13, ground := Ground.phase }, { on := 14, ground := Ground.phase }], guard := none }) (v := .pointer (some ⟨w9.heap.size, 5, none⟩)) rfl (by kernel_rfl) (by kernel_rfl) (by kernel_rfl) (fun _ _ _ h => h) (Or.inl ⟨by rfl, ?_⟩) (by assumption) ?_
                · intro wS hSw
                  try dsimp only at hSw
                  go_simp
                try simp only [Act.put, List.setIfInBounds_toArray, List.set_cons_zero, List.set_cons_succ]
                refine wpAnyH_ready (rs := [16]) (by kernel_rfl) (by simp) ?_
                refine AllReadyH.cons (o := { dst := none, op := Op.store 41 (Operand.tmp 87) (Operand.tmp 86), type := 0, pos := "l4_scope.go:319", after := #[{ on := 15, ground := Ground.data }, { on := 14, ground := Ground.data }, { on := 14, ground := Ground.chain }, { on := 0, ground := Ground.phase }, { on := 1, ground := Ground.phase }, { on := 2, ground := Ground.phase }, { on := 3, ground := Ground.phase }, { on := 4, ground := Ground.phase }, { on := 5, ground := Ground.phase }, { on := 6, ground := Ground.phase }, { on := 7, ground := Ground.phase }, { on := 8, ground := Ground.phase }, { on := 9, ground := Ground.phase }, { on := 10, ground := Ground.phase }, { on := 11, ground := Ground.phase }, { on := 12, ground := Ground.phase }, { on := 13, ground := Ground.phase }, { on := 14, ground := Ground.phase }], guard := none }) rfl (fun K hK => ?_) AllReadyH.nil
                go_simp
                refine hK.out _ _ ?_ (fun hHeld2 => ?_)
                · try dsimp only
                  (rw [World.cell?_setCell_far _ _ _ _ (by show w9.heap.size ≠ bs; omega)]; assumption)
                clear hK K hHeld
                have hHeld := hHeld2
                clear hHeld2
                try simp only [Act.put, List.setIfInBounds_toArray, List.set_cons_zero, List.set_cons_succ]
                refine wpAnyH_done (by kernel_rfl) ?_ _
                have STe := Lib.hid (show So g w9.heap.size w9 #[.string on, .int .i64 4, .int .i64 y, .int .i64 (r - 1), .int .i64 0, .slice va vn vc] _ _ _ _ from STd.out.set 5 (.slice va vn vc))
                generalize w4'.setCell ⟨w9.heap.size, 5, none⟩ (.slice va vn vc) = WE at *
                have HFE := Lib.hid (show ∀ f ∈ ps ++ [(⟨(⟨#[112]⟩ : ByteArray) ++ s1, p1, p2⟩ : ParamD)], f.fName.size ≤ 20 from fun f hf => by
                  rcases List.mem_append.1 hf with hf | hf
                  · exact HFN.out f hf
                  · rw [List.mem_singleton.1 hf]
                    show ((⟨#[112]⟩ : ByteArray) ++ s1).size ≤ 20
                    rw [ByteArray.size_append, Hs1.out]
                    decide)
                go_wp2_with fail
                exact ⟨⟨mm - 1, .slice va vn vc, _, by congr 1; omega, by omega, by simp; omega, ⟨STe.out.cur.more (by omega), STe.out.on, STe.out.box, STe.out.own, STe.out.lo, STe.out.g0, STe.out.ne⟩, HFE.out⟩, by simp [intOf]; omega⟩
              · go_simp
                go_at_call 77
                refine (sl1Num _ _ (by omega) (by omega)).mono ?_
                rintro e wa ⟨s1, hs1, rfl, hba⟩
                have hbd : Below wl.heap.size wl wa := ⟨hba.os, hba.tape, hba.output, hba.size, hba.block⟩
                have STa := Lib.hid (SO.out.below hbd)
                have da : _ = some pv := STa.out.box.cell 5
                have hz : ¬ 9223372036854775807 < (⟨#[112]⟩ : ByteArray).size + s1.size := (by (rw [hs1]; decide))
                have hz2 : ¬ 9223372036854775807 < 1 + s1.size := (by omega)
                have Hs1 := Lib.hid hs1
                clear hba hbd hs1
                refine hK.out _ _ ?_ (fun hHeld2 => ?_)
                · try dsimp only
                  exact (SC.out.turn STa.out.cur STa.out.on).box.cell 2
                clear hK K hHeld
                have hHeld := hHeld2
                clear hHeld2
                try simp only [Act.put, List.setIfInBounds_toArray, List.set_cons_zero, List.set_cons_succ]
                refine wpAnyH_take (i := 4) (oi := { dst := some 76, op := Op.binOp BinOp.add 9 (Operand.const (Value.string { data := #[112] })) (Operand.tmp 75) 9, type := 9, pos := "l4_scope.go:319", after := #[{ on := 3, ground := Ground.data }], guard := none }) (v := .string ((⟨#[112]⟩ : ByteArray) ++ s1)) rfl (by kernel_rfl) (by kernel_rfl) (by kernel_rfl) (fun _ _ _ h => h) (Or.inl ⟨by rfl, ?_⟩) (by assumption) ?_
                · intro wS hSw
                  try dsimp only at hSw
                  go_simp
                try simp only [Act.put, List.setIfInBounds_toArray, List.set_cons_zero, List.set_cons_succ]
                refine wpAnyH_ready (rs := [1, 6]) (by kernel_rfl) (by simp) ?_
                refine AllReadyH.cons (o := { dst := some 73, op := Op.load 41 (Operand.tmp 72), type := 41, pos := "l4_scope.go:319", after := #[{ on := 0, ground := Ground.data }], guard := none }) rfl (fun K hK => ?_) (AllReadyH.cons (o := { dst := some 78, op := Op.call { callee := Callee.value (Operand.func 28), args := #[Operand.tmp 77, Operand.const (Value.int IntKind.i64 2)], argTypes := #[52, 3] }, type := 4, pos := "l4_scope.go:319", after := #[{ on := 5, ground := Ground.data }, { on := 3, ground := Ground.chain }], guard := none }) rfl (fun K hK => ?_) AllReadyH.nil)
                · go_simp
                  refine hK.out _ _ ?_ (fun hHeld2 => ?_)
                  · try dsimp only
                    assumption
                  clear hK K hHeld
                  have hHeld := hHeld2
                  clear hHeld2
                  try simp only [Act.put, List.setIfInBounds_toArray, List.set_cons_zero, List.set_cons_succ]
                  refine wpAnyH_ready (rs := [6]) (by kernel_rfl) (by simp) ?_
                  refine AllReadyH.cons (o := { dst := some 78, op := Op.call { callee := Callee.value (Operand.func 28), args := #[Operand.tmp 77, Operand.const (Value.int IntKind.i64 2)], argTypes := #[52, 3] }, type := 4, pos := "l4_scope.go:319", after := #[{ on := 5, ground := Ground.data }, { on := 3, ground := Ground.chain }], guard := none }) rfl (fun K hK => ?_) AllReadyH.nil
                  go_simp
                  go_at_call 28
                  refine (cOne g _ 2 _ (by omega) (by omega) (by omega) STa.out.cur).mono ?_
                  rintro e wb ⟨p1, rfl, hcb, hob⟩
                  have STb := Lib.hid (STa.out.pick hcb hob)
                  have db : _ = some pv := STb.out.box.cell 5
                  clear hcb hob
                  refine hK.out _ _ ?_ (fun hHeld2 => ?_)
                  · try dsimp only
                    exact (SC.out.turn STb.out.cur STb.out.on).box.cell 2
                  clear hK K hHeld
                  have hHeld := hHeld2
                  clear hHeld2
                  try simp only [Act.put, List.setIfInBounds_toArray, List.set_cons_zero, List.set_cons_succ]
                  refine wpAnyH_ready (rs := [11]) (by kernel_rfl) (by simp) ?_
                  refine AllReadyH.cons (o := { dst := some 83, op := Op.call { callee := Callee.value (Operand.func 19), args := #[Operand.tmp 79, Operand.tmp 82], argTypes := #[52, 3] }, type := 3, pos := "l4_scope.go:319", after := #[{ on := 7, ground := Ground.data }, { on := 10, ground := Ground.data }, { on := 6, ground := Ground.chain }], guard := none }) rfl (fun K hK => ?_) AllReadyH.nil
                  go_simp
                  go_at_call 19
                  refine (cPick g _ (l.length : Int) _ (by omega) (by omega) (by omega) STb.out.cur).mono ?_
                  rintro e wc ⟨p2, ⟨p20, p21⟩, rfl, hcc, hoc⟩
                  have STc := Lib.hid (STb.out.pick hcc hoc)
                  have dc : _ = some pv := STc.out.box.cell 5
                  have dd : ∀ ob, (wc.alloc ob).cell? ⟨w9.heap.size, 5, none⟩ = some pv := (fun ob => (STc.out.alloc ob).box.cell 5)
                  have hsc := STc.out.on.size
                  clear hcc hoc
                  refine hK.out _ _ ?_ (fun hHeld2 => ?_)
                  · try dsimp only
                    exact (SC.out.turn STc.out.cur STc.out.on).box.cell 2
                  clear hK K hHeld
                  have hHeld := hHeld2
                  clear hHeld2
                  try simp only [Act.put, List.setIfInBounds_toArray, List.set_cons_zero, List.set_cons_succ]
                  refine wpAnyH_take (i := 12) (oi := { dst := some 84, op := Op.build 45 #[(0, Operand.tmp 76), (1, Operand.tmp 78), (2, Operand.tmp 83)], type := 45, pos := "l4_scope.go:319", after := #[{ on := 4, ground := Ground.data }, { on := 6, ground := Ground.data }, { on := 11, ground := Ground.data }], guard := none }) (v := .agg #[.string ((⟨#[112]⟩ : ByteArray) ++ s1), .bool p1, .int .i64 p2]) rfl (by kernel_rfl) (by kernel_rfl) (by kernel_rfl) (fun _ _ _ h => h) (Or.inl ⟨by rfl, ?_⟩) (by assumption) ?_
                  · intro wS hSw
                    try dsimp only at hSw
                    go_simp
                  try simp only [Act.put, List.setIfInBounds_toArray, List.set_cons_zero, List.set_cons_succ]
                  refine wpAnyH_ready (rs := [13]) (by kernel_rfl) (by simp) ?_
                  refine AllReadyH.cons (o := { dst := some 85, op := Op.buildSlice 41 1 #[(0, Operand.tmp 84)], type := 41, pos := "l4_scope.go:319", after := #[{ on := 12, ground := Ground.data }], guard := none }) rfl (fun K hK => ?_) AllReadyH.nil
                  go_simp
                  refine hK.out _ _ ?_ (fun hHeld2 => ?_)
                  · try dsimp only
                    exact ((SC.out.turn STc.out.cur STc.out.on).alloc _).box.cell 2
                  clear hK K hHeld
                  have hHeld := hHeld2
                  clear hHeld2
                  try simp only [Act.put, List.setIfInBounds_toArray, List.set_cons_zero, List.set_cons_succ]
                  refine wpAnyH_ready (rs := [14]) (by kernel_rfl) (by simp) ?_
                  refine AllReadyH.cons (o := { dst := some 86, op := Op.call { callee := Callee.builtin Builtin.append, args := #[Operand.tmp 73, Operand.tmp 85], argTypes := #[41, 41] }, type := 41, pos := "l4_scope.go:319", after := #[{ on := 1, ground := Ground.data }, { on := 13, ground := Ground.data }, { on := 11, ground := Ground.chain }], guard := none }) rfl (fun K hK => ?_) AllReadyH.nil
                  refine step_pushG rfl _ _ _ rfl paramS 45 j0 (.agg #[.string ByteArray.empty, .bool false, .int .i64 0]) 32 Try.underlying41 hj hy0 hy1 hy2 rfl (by decide) (by omega) w9.heap.size Nowhere _ _ ps rfl ((STc.out.alloc _).own) ⟨(⟨#[112]⟩ : ByteArray) ++ s1, p1, p2⟩ [.string ((⟨#[112]⟩ : ByteArray) ++ s1), .bool p1, .int .i64 p2] _ _ rfl (fun jj _ => Eq.trans ((Box.new' (g := wc.heap.size) _ 45 #[.string ((⟨#[112]⟩ : ByteArray) ++ s1), .bool p1, .int .i64 p2] (by simp)).cell jj) (by simp)) rfl (fun y hy => by (simp only [List.mem_cons, List.not_mem_nil, or_false] at hy; rcases hy with rfl | rfl | rfl <;> rfl)) (by omega) (by simp; omega) ?_
                  intro va vn vc w4' hown4 hg4 hv4
                  have STd := Lib.hid ((STc.out.alloc _).push hown4 hg4 hv4)
                  have de : _ = some pv := STd.out.box.cell 5
                  have df := STd.out.box.free 5
                  clear hown4 hg4 hv4
                  refine hK.out _ _ ?_ (fun hHeld2 => ?_)
                  · try dsimp only
                    exact (SC.out.turn STd.out.cur STd.out.on).box.cell 2
                  clear hK K hHeld
                  have hHeld := hHeld2
                  clear hHeld2
                  try simp only [Act.put, List.setIfInBounds_toArray, List.set_cons_zero, List.set_cons_succ]
                  refine wpAnyH_take (i := 15) (oi := { dst := some 87, op := Op.fieldAddr 43 (Operand.tmp 5) 5, type := 0, pos := "l4_scope.go:319", after := #[{ on := 0, ground := Ground.phase }, { on := 1, ground := Ground.phase }, { on := 2, ground := Ground.phase }, { on := 3, ground := Ground.phase }, { on := 4, ground := Ground.phase }, { on := 5, ground := Ground.phase }, { on := 6, ground := Ground.phase }, { on := 7, ground := Ground.phase }, { on := 8, ground := Ground.phase }, { on := 9, ground := Ground.phase }, { on := 10, ground := Ground.phase }, { on := 11, ground := Ground.phase }, { on := 12, ground := Ground.phase }, { on := 13, ground := Ground.phase }, { on := 14, ground := Ground.phase }], guard := none }) (v := .pointer (some ⟨w9.heap.size, 5, none⟩)) rfl (by kernel_rfl) (by kernel_rfl) (by kernel_rfl) (fun _ _ _ h => h) (Or.inl ⟨by rfl, ?_⟩) (by assumption) ?_
                  · intro wS hSw
                    try dsimp only at hSw
                    go_simp
                  try simp only [Act.put, List.setIfInBounds_toArray, List.set_cons_zero, List.set_cons_succ]
                  refine wpAnyH_ready (rs := [16]) (by kernel_rfl) (by simp) ?_
                  refine AllReadyH.cons (o := { dst := none, op := Op.store 41 (Operand.tmp 87) (Operand.tmp 86), type := 0, pos := "l4_scope.go:319", after := #[{ on := 15, ground := Ground.data }, { on := 14, ground := Ground.data }, { on := 14, ground := Ground.chain }, { on := 0, ground := Ground.phase }, { on := 1, ground := Ground.phase }, { on := 2, ground := Ground.phase }, { on := 3, ground := Ground.phase }, { on := 4, ground := Ground.phase }, { on := 5, ground := Ground.phase }, { on := 6, ground := Ground.phase }, { on := 7, ground := Ground.phase }, { on := 8, ground := Ground.phase }, { on := 9, ground := Ground.phase }, { on := 10, ground := Ground.phase }, { on := 11, ground := Ground.phase }, { on := 12, ground := Ground.phase }, { on := 13, ground := Ground.phase }, { on := 14, ground := Ground.phase }], guard := none }) rfl (fun K hK => ?_) AllReadyH.nil
                  go_simp
                  refine hK.out _ _ ?_ (fun hHeld2 => ?_)
                  · try dsimp only
                    (rw [World.cell?_setCell_far _ _ _ _ (by show w9.heap.size ≠ bs; omega)]; assumption)
                  clear hK K hHeld
                  have hHeld := hHeld2
                  clear hHeld2
                  try simp only [Act.put, List.setIfInBounds_toArray, List.set_cons_zero, List.set_cons_succ]
                  refine wpAnyH_done (by kernel_rfl) ?_ _
                  have STe := Lib.hid (show So g w9.heap.size w9 #[.string on, .int .i64 4, .int .i64 y, .int .i64 (r - 1), .int .i64 0, .slice va vn vc] _ _ _ _ from STd.out.set 5 (.slice va vn vc))
                  generalize w4'.setCell ⟨w9.heap.size, 5, none⟩ (.slice va vn vc) = WE at *
                  have HFE := Lib.hid (show ∀ f ∈ ps ++ [(⟨(⟨#[112]⟩ : ByteArray) ++ s1, p1, p2⟩ : ParamD)], f.fName.size ≤ 20 from fun f hf => by
                    rcases List.mem_append.1 hf with hf | hf
                    · exact HFN.out f hf
                    · rw [List.mem_singleton.1 hf]
                      show ((⟨#[112]⟩ : ByteArray) ++ s1).size ≤ 20
                      rw [ByteArray.size_append, Hs1.out]
                      decide)
                  go_wp2_with fail
                  exact ⟨⟨mm - 1, .slice va vn vc, _, by congr 1; omega, by omega, by simp; omega, ⟨STe.out.cur.more (by omega), STe.out.on, STe.out.box, STe.out.own, STe.out.lo, STe.out.g0, STe.out.ne⟩, HFE.out⟩, by simp [intOf]; omega⟩
                · go_simp
                  go_at_call 28
                  refine (cOne g _ 2 _ (by omega) (by omega) (by omega) STa.out.cur).mono ?_
                  rintro e wb ⟨p1, rfl, hcb, hob⟩
                  have STb := Lib.hid (STa.out.pick hcb hob)
                  have db : _ = some pv := STb.out.box.cell 5
                  clear hcb hob
                  refine hK.out _ _ ?_ (fun hHeld2 => ?_)
                  · try dsimp only
                    exact (SC.out.turn STb.out.cur STb.out.on).box.cell 2
                  clear hK K hHeld
                  have hHeld := hHeld2
                  clear hHeld2
                  try simp only [Act.put, List.setIfInBounds_toArray, List.set_cons_zero, List.set_cons_succ]
                  refine wpAnyH_ready (rs := [1, 11]) (by kernel_rfl) (by simp) ?_
                  refine AllReadyH.cons (o := { dst := some 73, op := Op.load 41 (Operand.tmp 72), type := 41, pos := "l4_scope.go:319", after := #[{ on := 0, ground := Ground.data }], guard := none }) rfl (fun K hK => ?_) (AllReadyH.cons (o := { dst := some 83, op := Op.call { callee := Callee.value (Operand.func 19), args := #[Operand.tmp 79, Operand.tmp 82], argTypes := #[52, 3] }, type := 3, pos := "l4_scope.go:319", after := #[{ on := 7, ground := Ground.data }, { on := 10, ground := Ground.data }, { on := 6, ground := Ground.chain }], guard := none }) rfl (fun K hK => ?_) AllReadyH.nil)
                  · go_simp
                    refine hK.out _ _ ?_ (fun hHeld2 => ?_)
                    · try dsimp only
                      assumption
                    clear hK K hHeld
                    have hHeld := hHeld2
                    clear hHeld2
                    try simp only [Act.put, List.setIfInBounds_toArray, List.set_cons_zero, List.set_cons_succ]
                    refine wpAnyH_ready (rs := [11]) (by kernel_rfl) (by simp) ?_
                    refine AllReadyH.cons (o := { dst := some 83, op := Op.call { callee := Callee.value (Operand.func 19), args := #[Operand.tmp 79, Operand.tmp 82], argTypes := #[52, 3] }, type := 3, pos := "l4_scope.go:319", after := #[{ on := 7, ground := Ground.data }, { on := 10, ground := Ground.data }, { on := 6, ground := Ground.chain }], guard := none }) rfl (fun K hK => ?_) AllReadyH.nil
                    go_simp
                    go_at_call 19
                    refine (cPick g _ (l.length : Int) _ (by omega) (by omega) (by omega) STb.out.cur).mono ?_
                    rintro e wc ⟨p2, ⟨p20, p21⟩, rfl, hcc, hoc⟩
                    have STc := Lib.hid (STb.out.pick hcc hoc)
                    have dc : _ = some pv := STc.out.box.cell 5
                    have dd : ∀ ob, (wc.alloc ob).cell? ⟨w9.heap.size, 5, none⟩ = some pv := (fun ob => (STc.out.alloc ob).box.cell 5)
                    have hsc := STc.out.on.size
                    clear hcc hoc
                    refine hK.out _ _ ?_ (fun hHeld2 => ?_)
                    · try dsimp only
                      exact (SC.out.turn STc.out.cur STc.out.on).box.cell 2
                    clear hK K hHeld
                    have hHeld := hHeld2
                    clear hHeld2
                    try simp only [Act.put, List.setIfInBounds_toArray, List.set_cons_zero, List.set_cons_succ]
                    refine wpAnyH_take (i := 12) (oi := { dst := some 84, op := Op.build 45 #[(0, Operand.tmp 76), (1, Operand.tmp 78), (2, Operand.tmp 83)], type := 45, pos := "l4_scope.go:319", after := #[{ on := 4, ground := Ground.data }, { on := 6, ground := Ground.data }, { on := 11, ground := Ground.data }], guard := none }) (v := .agg #[.string ((⟨#[112]⟩ : ByteArray) ++ s1), .bool p1, .int .i64 p2]) rfl (by kernel_rfl) (by kernel_rfl) (by kernel_rfl) (fun _ _ _ h => h) (Or.inl ⟨by rfl, ?_⟩) (by assumption) ?_
                    · intro wS hSw
                      try dsimp only at hSw
                      go_simp
                    try simp only [Act.put, List.setIfInBounds_toArray, List.set_cons_zero, List.set_cons_succ]
                    refine wpAnyH_ready (rs := [13]) (by kernel_rfl) (by simp) ?_
                    refine AllReadyH.cons (o := { dst := some 85, op := Op.buildSlice 41 1 #[(0, Operand.tmp 84)], type := 41, pos := "l4_scope.go:319", after := #[{ on := 12, ground := Ground.data }], guard := none }) rfl (fun K hK => ?_) AllReadyH.nil
                    go_simp
                    refine hK.out _ _ ?_ (fun hHeld2 => ?_)
                    · try dsimp only
                      exact ((SC.out.turn STc.out.cur STc.out.on).alloc _).box.cell 2
                    clear hK K hHeld
                    have hHeld := hHeld2
                    clear hHeld2
                    try simp only [Act.put, List.setIfInBounds_toArray, List.set_cons_zero, List.set_cons_succ]
                    refine wpAnyH_ready (rs := [14]) (by kernel_rfl) (by simp) ?_
                    refine AllReadyH.cons (o := { dst := some 86, op := Op.call { callee := Callee.builtin Builtin.append, args := #[Operand.tmp 73, Operand.tmp 85], argTypes := #[41, 41] }, type := 41, pos := "l4_scope.go:319", after := #[{ on := 1, ground := Ground.data }, { on := 13, ground := Ground.data }, { on := 11, ground := Ground.chain }], guard := none }) rfl (fun K hK => ?_) AllReadyH.nil
                    refine step_pushG rfl _ _ _ rfl paramS 45 j0 (.agg #[.string ByteArray.empty, .bool false, .int .i64 0]) 32 Try.underlying41 hj hy0 hy1 hy2 rfl (by decide) (by omega) w9.heap.size Nowhere _ _ ps rfl ((STc.out.alloc _).own) ⟨(⟨#[112]⟩ : ByteArray) ++ s1, p1, p2⟩ [.string ((⟨#[112]⟩ : ByteArray) ++ s1), .bool p1, .int .i64 p2] _ _ rfl (fun jj _ => Eq.trans ((Box.new' (g := wc.heap.size) _ 45 #[.string ((⟨#[112]⟩ : ByteArray) ++ s1), .bool p1, .int .i64 p2] (by simp)).cell jj) (by simp)) rfl (fun y hy => by (simp only [List.mem_cons, List.not_mem_nil, or_false] at hy; rcases hy with rfl | rfl | rfl <;> rfl)) (by omega) (by simp; omega) ?_
                    intro va vn vc w4' hown4 hg4 hv4
                    have STd := Lib.hid ((STc.out.alloc _).push hown4 hg4 hv4)
                    have de : _ = some pv := STd.out.box.cell 5
                    have df := STd.out.box.free 5
                    clear hown4 hg4 hv4
                    refine hK.out _ _ ?_ (fun hHeld2 => ?_)
                    · try dsimp only
                      exact (SC.out.turn STd.out.cur STd.out.on).box.cell 2
                    clear hK K hHeld
                    have hHeld := hHeld2
                    clear hHeld2
                    try simp only [Act.put, List.setIfInBounds_toArray, List.set_cons_zero, List.set_cons_succ]
                    refine wpAnyH_take (i := 15) (oi := { dst := some 87, op := Op.fieldAddr 43 (Operand.tmp 5) 5, type := 0, pos := "l4_scope.go:319", after := #[{ on := 0, ground := Ground.phase }, { on := 1, ground := Ground.phase }, { on := 2, ground := Ground.phase }, { on := 3, ground := Ground.phase }, { on := 4, ground := Ground.phase }, { on := 5, ground := Ground.phase }, { on := 6, ground := Ground.phase }, { on := 7, ground := Ground.phase }, { on := 8, ground := Ground.phase }, { on := 9, ground := Ground.phase }, { on := 10, ground := Ground.phase }, { on := 11, ground := Ground.phase }, { on := 12, ground := Ground.phase }, { on := 13, ground := Ground.phase }, { on := 14, ground := Ground.phase }], guard := none }) (v := .pointer (some ⟨w9.heap.size, 5, none⟩)) rfl (by kernel_rfl) (by kernel_rfl) (by kernel_rfl) (fun _ _ _ h => h) (Or.inl ⟨by rfl, ?_⟩) (by assumption) ?_
                    · intro wS hSw
                      try dsimp only at hSw
                      go_simp
                    try simp only [Act.put, List.setIfInBounds_toArray, List.set_cons_zero, List.set_cons_succ]
                    refine wpAnyH_ready (rs := [16]) (by kernel_rfl) (by simp) ?_
                    refine AllReadyH.cons (o := { dst := none, op := Op.store 41 (Operand.tmp 87) (Operand.tmp 86), type := 0, pos := "l4_scope.go:319", after := #[{ on := 15, ground := Ground.data }, { on := 14, ground := Ground.data }, { on := 14, ground := Ground.chain }, { on := 0, ground := Ground.phase }, { on := 1, ground := Ground.phase }, { on := 2, ground := Ground.phase }, { on := 3, ground := Ground.phase }, { on := 4, ground := Ground.phase }, { on := 5, ground := Ground.phase }, { on := 6, ground := Ground.phase }, { on := 7, ground := Ground.phase }, { on := 8, ground := Ground.phase }, { on := 9, ground := Ground.phase }, { on := 10, ground := Ground.phase }, { on := 11, ground := Ground.phase }, { on := 12, ground := Ground.phase }, { on := 13, ground := Ground.phase }, { on := 14, ground := Ground.phase }], guard := none }) rfl (fun K hK => ?_) AllReadyH.nil
                    go_simp
                    refine hK.out _ _ ?_ (fun hHeld2 => ?_)
                    · try dsimp only
                      (rw [World.cell?_setCell_far _ _ _ _ (by show w9.heap.size ≠ bs; omega)]; assumption)
                    clear hK K hHeld
                    have hHeld := hHeld2
                    clear hHeld2
                    try simp only [Act.put, List.setIfInBounds_toArray, List.set_cons_zero, List.set_cons_succ]
                    refine wpAnyH_done (by kernel_rfl) ?_ _
                    have STe := Lib.hid (show So g w9.heap.size w9 #[.string on, .int .i64 4, .int .i64 y, .int .i64 (r - 1), .int .i64 0, .slice va vn vc] _ _ _ _ from STd.out.set 5 (.slice va vn vc))
                    generalize w4'.setCell ⟨w9.heap.size, 5, none⟩ (.slice va vn vc) = WE at *
                    have HFE := Lib.hid (show ∀ f ∈ ps ++ [(⟨(⟨#[112]⟩ : ByteArray) ++ s1, p1, p2⟩ : ParamD)], f.fName.size ≤ 20 from fun f hf => by
                      rcases List.mem_append.1 hf with hf | hf
                      · exact HFN.out f hf
                      · rw [List.mem_singleton.1 hf]
                        show ((⟨#[112]⟩ : ByteArray) ++ s1).size ≤ 20
                        rw [ByteArray.size_append, Hs1.out]
                        decide)
                    go_wp2_with fail
                    exact ⟨⟨mm - 1, .slice va vn vc, _, by congr 1; omega, by omega, by simp; omega, ⟨STe.out.cur.more (by omega), STe.out.on, STe.out.box, STe.out.own, STe.out.lo, STe.out.g0, STe.out.ne⟩, HFE.out⟩, by simp [intOf]; omega⟩
                  · go_simp
                    go_at_call 19
                    refine (cPick g _ (l.length : Int) _ (by omega) (by omega) (by omega) STb.out.cur).mono ?_
                    rintro e wc ⟨p2, ⟨p20, p21⟩, rfl, hcc, hoc⟩
                    have STc := Lib.hid (STb.out.pick hcc hoc)
                    have dc : _ = some pv := STc.out.box.cell 5
                    have dd : ∀ ob, (wc.alloc ob).cell? ⟨w9.heap.size, 5, none⟩ = some pv := (fun ob => (STc.out.alloc ob).box.cell 5)
                    have hsc := STc.out.on.size
                    clear hcc hoc
                    refine hK.out _ _ ?_ (fun hHeld2 => ?_)
                    · try dsimp only
                      exact (SC.out.turn STc.out.cur STc.out.on).box.cell 2
                    clear hK K hHeld
                    have hHeld := hHeld2
                    clear hHeld2
                    try simp only [Act.put, List.setIfInBounds_toArray, List.set_cons_zero, List.set_cons_succ]
                    refine wpAnyH_take (i := 12) (oi := { dst := some 84, op := Op.build 45 #[(0, Operand.tmp 76), (1, Operand.tmp 78), (2, Operand.tmp 83)], type := 45, pos := "l4_scope.go:319", after := #[{ on := 4, ground := Ground.data }, { on := 6, ground := Ground.data }, { on := 11, ground := Ground.data }], guard := none }) (v := .agg #[.string ((⟨#[112]⟩ : ByteArray) ++ s1), .bool p1, .int .i64 p2]) rfl (by kernel_rfl) (by kernel_rfl) (by kernel_rfl) (fun _ _ _ h => h) (Or.inl ⟨by rfl, ?_⟩) (by assumption) ?_
                    · intro wS hSw
                      try dsimp only at hSw
                      go_simp
                    try simp only [Act.put, List.setIfInBounds_toArray, List.set_cons_zero, List.set_cons_succ]
                    refine wpAnyH_ready (rs := [1, 13]) (by kernel_rfl) (by simp) ?_
                    refine AllReadyH.cons (o := { dst := some 73, op := Op.load 41 (Operand.tmp 72), type := 41, pos := "l4_scope.go:319", after := #[{ on := 0, ground := Ground.data }], guard := none }) rfl (fun K hK => ?_) (AllReadyH.cons (o := { dst := some 85, op := Op.buildSlice 41 1 #[(0, Operand.tmp 84)], type := 41, pos := "l4_scope.go:319", after := #[{ on := 12, ground := Ground.data }], guard := none }) rfl (fun K hK => ?_) AllReadyH.nil)
                    · go_simp
                      refine hK.out _ _ ?_ (fun hHeld2 => ?_)
                      · try dsimp only
                        assumption
                      clear hK K hHeld
                      have hHeld := hHeld2
                      clear hHeld2
                      try simp only [Act.put, List.setIfInBounds_toArray, List.set_cons_zero, List.set_cons_succ]
                      refine wpAnyH_ready (rs := [13]) (by kernel_rfl) (by simp) ?_
                      refine AllReadyH.cons (o := { dst := some 85, op := Op.buildSlice 41 1 #[(0, Operand.tmp 84)], type := 41, pos := "l4_scope.go:319", after := #[{ on := 12, ground := Ground.data }], guard := none }) rfl (fun K hK => ?_) AllReadyH.nil
                      go_simp
                      refine hK.out _ _ ?_ (fun hHeld2 => ?_)
                      · try dsimp only
                        exact ((SC.out.turn STc.out.cur STc.out.on).alloc _).box.cell 2
                      clear hK K hHeld
                      have hHeld := hHeld2
                      clear hHeld2
                      try simp only [Act.put, List.setIfInBounds_toArray, List.set_cons_zero, List.set_cons_succ]
                      refine wpAnyH_ready (rs := [14]) (by kernel_rfl) (by simp) ?_
                      refine AllReadyH.cons (o := { dst := some 86, op := Op.call { callee := Callee.builtin Builtin.append, args := #[Operand.tmp 73, Operand.tmp 85], argTypes := #[41, 41] }, type := 41, pos := "l4_scope.go:319", after := #[{ on := 1, ground := Ground.data }, { on := 13, ground := Ground.data }, { on := 11, ground := Ground.chain }], guard := none }) rfl (fun K hK => ?_) AllReadyH.nil
                      refine step_pushG rfl _ _ _ rfl paramS 45 j0 (.agg #[.string ByteArray.empty, .bool false, .int .i64 0]) 32 Try.underlying41 hj hy0 hy1 hy2 rfl (by decide) (by omega) w9.heap.size Nowhere _ _ ps rfl ((STc.out.alloc _).own) ⟨(⟨#[112]⟩ : ByteArray) ++ s1, p1, p2⟩ [.string ((⟨#[112]⟩ : ByteArray) ++ s1), .bool p1, .int .i64 p2] _ _ rfl (fun jj _ => Eq.trans ((Box.new' (g := wc.heap.size) _ 45 #[.string ((⟨#[112]⟩ : ByteArray) ++ s1), .bool p1, .int .i64 p2] (by simp)).cell jj) (by simp)) rfl (fun y hy => by (simp only [List.mem_cons, List.not_mem_nil, or_false] at hy; rcases hy with rfl | rfl | rfl <;> rfl)) (by omega) (by simp; omega) ?_
                      intro va vn vc w4' hown4 hg4 hv4
                      have STd := Lib.hid ((STc.out.alloc _).push hown4 hg4 hv4)
                      have de : _ = some pv := STd.out.box.cell 5
                      have df := STd.out.box.free 5
                      clear hown4 hg4 hv4
                      refine hK.out _ _ ?_ (fun hHeld2 => ?_)
                      · try dsimp only
                        exact (SC.out.turn STd.out.cur STd.out.on).box.cell 2
                      clear hK K hHeld
                      have hHeld := hHeld2
                      clear hHeld2
                      try simp only [Act.put, List.setIfInBounds_toArray, List.set_cons_zero, List.set_cons_succ]
                      refine wpAnyH_take (i := 15) (oi := { dst := some 87, op := Op.fieldAddr 43 (Operand.tmp 5) 5, type := 0, pos := "l4_scope.go:319", after := #[{ on := 0, ground := Ground.phase }, { on := 1, ground := Ground.phase }, { on := 2, ground := Ground.phase }, { on := 3, ground := Ground.phase }, { on := 4, ground := Ground.phase }, { on := 5, ground := Ground.phase }, { on := 6, ground := Ground.phase }, { on := 7, ground := Ground.phase }, { on := 8, ground := Ground.phase }, { on := 9, ground := Ground.phase }, { on := 10, ground := Ground.phase }, { on := 11, ground := Ground.phase }, { on := 12, ground := Ground.phase }, { on := 13, ground := Ground.phase }, { on := 14, ground := Ground.phase }], guard := none }) (v := .pointer (some ⟨w9.heap.size, 5, none⟩)) rfl (by kernel_rfl) (by kernel_rfl) (by kernel_rfl) (fun _ _ _ h => h) (Or.inl ⟨by rfl, ?_⟩) (by assumption) ?_
                      · intro wS hSw
                        try dsimp only at hSw
                        go_simp
                      try simp only [Act.put, List.setIfInBounds_toArray, List.set_cons_zero, List.set_cons_succ]
                      refine wpAnyH_ready (rs := [16]) (by kernel_rfl) (by simp) ?_
                      refine AllReadyH.cons (o := { dst := none, op := Op.store 41 (Operand.tmp 87) (Operand.tmp 86), type := 0, pos := "l4_scope.go:319", after := #[{ on := 15, ground := Ground.data }, { on := 14, ground := Ground.data }, { on := 14, ground := Ground.chain }, { on := 0, ground := Ground.phase }, { on := 1, ground := Ground.phase }, { on := 2, ground := Ground.phase }, { on := 3, ground := Ground.phase }, { on := 4, ground := Ground.phase }, { on := 5, ground := Ground.phase }, { on := 6, ground := Ground.phase }, { on := 7, ground := Ground.phase }, { on := 8, ground := Ground.phase }, { on := 9, ground := Ground.phase }, { on := 10, ground := Ground.phase }, { on := 11, ground := Ground.phase }, { on := 12, ground := Ground.phase }, { on := 13, ground := Ground.phase }, { on := 14, ground := Ground.phase }], guard := none }) rfl (fun K hK => ?_) AllReadyH.nil
                      go_simp
                      refine hK.out _ _ ?_ (fun hHeld2 => ?_)
                      · try dsimp only
                        (rw [World.cell?_setCell_far _ _ _ _ (by show w9.heap.size ≠ bs; omega)]; assumption)
                      clear hK K hHeld
                      have hHeld := hHeld2
                      clear hHeld2
                      try simp only [Act.put, List.setIfInBounds_toArray, List.set_cons_zero, List.set_cons_succ]
                      refine wpAnyH_done (by kernel_rfl) ?_ _
                      have STe := Lib.hid (show So g w9.heap.size w9 #[.string on, .int .i64 4, .int .i64 y, .int .i64 (r - 1), .int .i64 0, .slice va vn vc] _ _ _ _ from STd.out.set 5 (.slice va vn vc))
                      generalize w4'.setCell ⟨w9.heap.size, 5, none⟩ (.slice va vn vc) = WE at *
                      have HFE := Lib.hid (show ∀ f ∈ ps ++ [(⟨(⟨#[112]⟩ : ByteArray) ++ s1, p1, p2⟩ : ParamD)], f.fName.size ≤ 20 from fun f hf => by
                        rcases List.mem_append.1 hf with hf | hf
                        · exact HFN.out f hf
                        · rw [List.mem_singleton.1 hf]
                          show ((⟨#[112]⟩ : ByteArray) ++ s1).size ≤ 20
                          rw [ByteArray.size_append, Hs1.out]
                          decide)
                      go_wp2_with fail
                      exact ⟨⟨mm - 1, .slice va vn vc, _, by congr 1; omega, by omega, by simp; omega, ⟨STe.out.cur.more (by omega), STe.out.on, STe.out.box, STe.out.own, STe.out.lo, STe.out.g0, STe.out.ne⟩, HFE.out⟩, by simp [intOf]; omega⟩
                    · go_simp
                      refine hK.out _ _ ?_ (fun hHeld2 => ?_)
                      · try dsimp only
                        exact ((SC.out.turn STc.out.cur STc.out.on).alloc _).box.cell 2
                      clear hK K hHeld
                      have hHeld := hHeld2
                      clear hHeld2
                      try simp only [Act.put, List.setIfInBounds_toArray, List.set_cons_zero, List.set_cons_succ]
                      refine wpAnyH_ready (rs := [1]) (by kernel_rfl) (by simp) ?_
                      refine AllReadyH.cons (o := { dst := some 73, op := Op.load 41 (Operand.tmp 72), type := 41, pos := "l4_scope.go:319", after := #[{ on := 0, ground := Ground.data }], guard := none }) rfl (fun K hK => ?_) AllReadyH.nil
                      go_simp
                      refine hK.out _ _ ?_ (fun hHeld2 => ?_)
                      · try dsimp only
                        assumption
                      clear hK K hHeld
                      have hHeld := hHeld2
                      clear hHeld2
                      try simp only [Act.put, List.setIfInBounds_toArray, List.set_cons_zero, List.set_cons_succ]
                      refine wpAnyH_ready (rs := [14]) (by kernel_rfl) (by simp) ?_
                      refine AllReadyH.cons (o := { dst := some 86, op := Op.call { callee := Callee.builtin Builtin.append, args := #[Operand.tmp 73, Operand.tmp 85], argTypes := #[41, 41] }, type := 41, pos := "l4_scope.go:319", after := #[{ on := 1, ground := Ground.data }, { on := 13, ground := Ground.data }, { on := 11, ground := Ground.chain }], guard := none }) rfl (fun K hK => ?_) AllReadyH.nil
                      refine step_pushG rfl _ _ _ rfl paramS 45 j0 (.agg #[.string ByteArray.empty, .bool false, .int .i64 0]) 32 Try.underlying41 hj hy0 hy1 hy2 rfl (by decide) (by omega) w9.heap.size Nowhere _ _ ps rfl ((STc.out.alloc _).own) ⟨(⟨#[112]⟩ : ByteArray) ++ s1, p1, p2⟩ [.string ((⟨#[112]⟩ : ByteArray) ++ s1), .bool p1, .int .i64 p2] _ _ rfl (fun jj _ => Eq.trans ((Box.new' (g := wc.heap.size) _ 45 #[.string ((⟨#[112]⟩ : ByteArray) ++ s1), .bool p1, .int .i64 p2] (by simp)).cell jj) (by simp)) rfl (fun y hy => by (simp only [List.mem_cons, List.not_mem_nil, or_false] at hy; rcases hy with rfl | rfl | rfl <;> rfl)) (by omega) (by simp; omega) ?_
                      intro va vn vc w4' hown4 hg4 hv4
                      have STd := Lib.hid ((STc.out.alloc _).push hown4 hg4 hv4)
                      have de : _ = some pv := STd.out.box.cell 5
                      have df := STd.out.box.free 5
                      clear hown4 hg4 hv4
                      refine hK.out _ _ ?_ (fun hHeld2 => ?_)
                      · try dsimp only
                        exact (SC.out.turn STd.out.cur STd.out.on).box.cell 2
                      clear hK K hHeld
                      have hHeld := hHeld2
                      clear hHeld2
                      try simp only [Act.put, List.setIfInBounds_toArray, List.set_cons_zero, List.set_cons_succ]
                      refine wpAnyH_take (i := 15) (oi := { dst := some 87, op := Op.fieldAddr 43 (Operand.tmp 5) 5, type := 0, pos := "l4_scope.go:319", after := #[{ on := 0, ground := Ground.phase }, { on := 1, ground := Ground.phase }, { on := 2, ground := Ground.phase }, { on := 3, ground := Ground.phase }, { on := 4, ground := Ground.phase }, { on := 5, ground := Ground.phase }, { on := 6, ground := Ground.phase }, { on := 7, ground := Ground.phase }, { on := 8, ground := Ground.phase }, { on := 9, ground := Ground.phase }, { on := 10, ground := Ground.phase }, { on := 11, ground := Ground.phase }, { on := 12, ground := Ground.phase }, { on := 13, ground := Ground.phase }, { on := 14, ground := Ground.phase }], guard := none }) (v := .pointer (some ⟨w9.heap.size, 5, none⟩)) rfl (by kernel_rfl) (by kernel_rfl) (by kernel_rfl) (fun _ _ _ h => h) (Or.inl ⟨by rfl, ?_⟩) (by assumption) ?_
                      · intro wS hSw
                        try dsimp only at hSw
                        go_simp
                      try simp only [Act.put, List.setIfInBounds_toArray, List.set_cons_zero, List.set_cons_succ]
                      refine wpAnyH_ready (rs := [16]) (by kernel_rfl) (by simp) ?_
                      refine AllReadyH.cons (o := { dst := none, op := Op.store 41 (Operand.tmp 87) (Operand.tmp 86), type := 0, pos := "l4_scope.go:319", after := #[{ on := 15, ground := Ground.data }, { on := 14, ground := Ground.data }, { on := 14, ground := Ground.chain }, { on := 0, ground := Ground.phase }, { on := 1, ground := Ground.phase }, { on := 2, ground := Ground.phase }, { on := 3, ground := Ground.phase }, { on := 4, ground := Ground.phase }, { on := 5, ground := Ground.phase }, { on := 6, ground := Ground.phase }, { on := 7, ground := Ground.phase }, { on := 8, ground := Ground.phase }, { on := 9, ground := Ground.phase }, { on := 10, ground := Ground.phase }, { on := 11, ground := Ground.phase }, { on := 12, ground := Ground.phase }, { on := 13, ground := Ground.phase }, { on := 14, ground := Ground.phase }], guard := none }) rfl (fun K hK => ?_) AllReadyH.nil
                      go_simp
                      refine hK.out _ _ ?_ (fun hHeld2 => ?_)
                      · try dsimp only
                        (rw [World.cell?_setCell_far _ _ _ _ (by show w9.heap.size ≠ bs; omega)]; assumption)
                      clear hK K hHeld
                      have hHeld := hHeld2
                      clear hHeld2
                      try simp only [Act.put, List.setIfInBounds_toArray, List.set_cons_zero, List.set_cons_succ]
                      refine wpAnyH_done (by kernel_rfl) ?_ _
                      have STe := Lib.hid (show So g w9.heap.size w9 #[.string on, .int .i64 4, .int .i64 y, .int .i64 (r - 1), .int .i64 0, .slice va vn vc] _ _ _ _ from STd.out.set 5 (.slice va vn vc))
                      generalize w4'.setCell ⟨w9.heap.size, 5, none⟩ (.slice va vn vc) = WE at *
                      have HFE := Lib.hid (show ∀ f ∈ ps ++ [(⟨(⟨#[112]⟩ : ByteArray) ++ s1, p1, p2⟩ : ParamD)], f.fName.size ≤ 20 from fun f hf => by
                        rcases List.mem_append.1 hf with hf | hf
                        · exact HFN.out f hf
                        · rw [List.mem_singleton.1 hf]
                          show ((⟨#[112]⟩ : ByteArray) ++ s1).size ≤ 20
                          rw [ByteArray.size_append, Hs1.out]
                          decide)
                      go_wp2_with fail
                      exact ⟨⟨mm - 1, .slice va vn vc, _, by congr 1; omega, by omega, by simp; omega, ⟨STe.out.cur.more (by omega), STe.out.on, STe.out.box, STe.out.own, STe.out.lo, STe.out.g0, STe.out.ne⟩, HFE.out⟩, by simp [intOf]; omega⟩
            · obtain rfl : mm = 0 := by omega
              obtain ⟨fa, fc, rfl, _, _⟩ := SO.out.rows
              have SXb := Lib.hid (SC.out.turn SO.out.cur SO.out.on)
              have b3 : _ = some ov := SXb.out.box.cell 3
              have fb := SXb.out.box.free 3
              have blt := SXb.out.box.lt
              have bne := SC.out.box.lt
              obtain ⟨c0, c1, c2, c3, c4, c5⟩ := cells6T SO.out.box
              have SX := Lib.hid (SC.out.turn SO.out.cur SO.out.on)
              have RX := Lib.hid (RS.out.only SO.out.on (by omega))
              have hpl := SX.out.objs.lt
              have hBw := SXb.out.hw
              have hbB := SX.out.hB
              obtain ⟨i0, hi, hz0, hz1, hz2⟩ := info_parts infoObject
              have Hi := Lib.hid (And.intro hi (And.intro hz0 (And.intro hz1 hz2)))
              have AT := Lib.hid (SO.out.at_ SC.out.objs SC.out.hw on 4 y (r - 1) 0)
              clear hi hz0 hz1 hz2
              go_wp2_with (at_builtin; refine wpList_pushG rfl _ _ _ rfl objectS 43 i0 (.agg #[.string ByteArray.empty, .int .i64 0, .int .i64 0, .int .i64 0, .int .i64 0, .slice none 0 0]) 72 Try.underlying33 ?q1 ?q2 ?q3 ?q4 rfl (by decide) (by omega) B (fun q => B ≤ q) _ _ os rfl ?q5 ⟨on, 4, y, (r - 1), 0, ps⟩ [.string on, .int .i64 4, .int .i64 y, .int .i64 (r - 1), .int .i64 0, .slice fa ps.length fc] _ _ rfl ?q6 ?q7 ?q8 ?q9 ?q10 ?_)
              case q1 => exact Hi.out.1
              case q2 => exact Hi.out.2.1
              case q3 => exact Hi.out.2.2.1
              case q4 => exact Hi.out.2.2.2
              case q5 => exact SX.out.objs.alloc _
              case q6 =>
                intro j _
                refine Eq.trans ((Box.new' (g := wl.heap.size) _ 43 #[.string on, .int .i64 4, .int .i64 y, .int .i64 (r - 1), .int .i64 0, .slice fa ps.length fc] (by first | (simp; done) | (simp [World.setCell]; done))).cell j) ?_
                simp
              case q7 => exact objectS.keep AT.out (fun q _ hq => Below.heap_alloc _ _ q hq) (by simp)
              case q8 =>
                intro y hy
                simp only [List.mem_cons, List.not_mem_nil, or_false] at hy
                rcases hy with rfl | rfl | rfl | rfl | rfl | rfl <;> rfl
              case q9 => omega
              case q10 => simp; omega
              intro v9 wn hown9 hg9 _
              have SP := Lib.hid ((SX.out.alloc (.cells #[.string on, .int .i64 4, .int .i64 y, .int .i64 (r - 1), .int .i64 0, .slice fa ps.length fc] 43)).push hown9 hg9)
              have RP := Lib.hid ((hg9.block w.heap.size (RX.out.alloc (.cells #[.string on, .int .i64 4, .int .i64 y, .int .i64 (r - 1), .int .i64 0, .slice fa ps.length fc] 43)).lt (fun e => by have := (hpl w.heap.size e.symm).1; omega)).trans (RX.out.alloc (.cells #[.string on, .int .i64 4, .int .i64 y, .int .i64 (r - 1), .int .i64 0, .slice fa ps.length fc] 43)) |> fun b : Box wn w.heap.size 36 #[.string ⟨#[]⟩, .slice none 0 0, .slice none 0 0, .slice none 0 0, .slice none 0 0] => b.only ((Only.refl bs wn).set 3 v9) (by omega))
              have fp : wn.frozen? ⟨bs, 3, none⟩ = false := by
                have := hg9.block bs (SX.out.alloc (.cells #[.string on, .int .i64 4, .int .i64 y, .int .i64 (r - 1), .int .i64 0, .slice fa ps.length fc] 43)).box.lt (fun e => by have := (hpl bs e.symm).1; omega)
                exact Box.free (this.trans (SX.out.alloc (.cells #[.string on, .int .i64 4, .int .i64 y, .int .i64 (r - 1), .int .i64 0, .slice fa ps.length fc] 43)).box) 3
              have cp : wn.cell? ⟨bs, 3, none⟩ = some ov := by
                have := hg9.block bs (SX.out.alloc (.cells #[.string on, .int .i64 4, .int .i64 y, .int .i64 (r - 1), .int .i64 0, .slice fa ps.length fc] 43)).box.lt (fun e => by have := (hpl bs e.symm).1; omega)
                exact Box.cell (this.trans (SX.out.alloc (.cells #[.string on, .int .i64 4, .int .i64 y, .int .i64 (r - 1), .int .i64 0, .slice fa ps.length fc] 43)).box) 3
              obtain ⟨ra, rc, rfl, _⟩ := OwnG.rows (Q := Any) hown9 (fun _ _ _ => trivial) (fun _ _ => trivial)
              rw [show (os ++ [(⟨on, 4, y, (r - 1), 0, ps⟩ : ObjectD)]).length = os.length + 1 from by simp] at SP RP
              have OS9 := Lib.hid (show ∀ o ∈ os ++ [(⟨on, 4, y, (r - 1), 0, ps⟩ : ObjectD)], drawnO o from fun o ho => by
                rcases List.mem_append.1 ho with ho | ho
                · exact OS.out o ho
                · rw [List.mem_singleton.1 ho]
                  exact ⟨HN.out, (by show ps.length ≤ 2; omega), HFN.out⟩)
              clear hown9 hg9 SO SC RS SX RX AT SXb
              go_wp2_with fail
              exact ⟨⟨m - 1, .slice ra (os.length + 1) rc, os ++ [⟨on, 4, y, (r - 1), 0, ps⟩], by congr 1; omega, by simp; omega, ⟨SP.out.cur.more (by simp; omega), SP.out.on, SP.out.box, SP.out.ims, SP.out.types, SP.out.uses, SP.out.objs, SP.out.lo, SP.out.hB, SP.out.hw, SP.out.g0, SP.out.tlt, SP.out.ilt, SP.out.ult⟩, RP.out, OS9.out⟩, by simp [intOf]; omega⟩
        -- behind
      · obtain rfl : m = 0 := by omega
        have x0 : _ = some (Value.string nm) := SC.out.box.cell 0
        have x1 : _ = some iv := SC.out.box.cell 1
        have x2 : _ = some (Value.slice ta l.length tc) := SC.out.box.cell 2
        have x3 : _ = some ov := SC.out.box.cell 3
        have x4 : _ = some uv := SC.out.box.cell 4
        have fr := RS.out.free
        have z0 : _ = some (Value.string ⟨#[]⟩) := RS.out.cell 0
        have z1 : _ = some (Value.slice none 0 0) := RS.out.cell 1
        have z2 : _ = some (Value.slice none 0 0) := RS.out.cell 2
        have z3 : _ = some (Value.slice none 0 0) := RS.out.cell 3
        have z4 : _ = some (Value.slice none 0 0) := RS.out.cell 4
        obtain ⟨oa, oc, rfl, _, _, _⟩ := OwnG.rows (Q := Any) SC.out.objs (fun _ _ _ => trivial) (fun _ _ => trivial)
        obtain ⟨ia, ic, rfl, _, _, _⟩ := OwnG.rows (Q := Any) SC.out.ims (fun _ _ _ => trivial) (fun _ _ => trivial)
        obtain ⟨ua, uc, rfl, _, _, _⟩ := OwnG.rows (Q := Any) SC.out.uses (fun _ _ _ => trivial) (fun _ _ => trivial)
        go_wp2_with fail
        refine bodyPost_ret (results_one rfl Try.underlying36 rfl _ _ w.heap.size #[.string nm, .slice ia ims.length ic, .slice ta l.length tc, .slice oa os.length oc, .slice ua us.length uc] rfl 36 ?qbox 5 sizeScope rfl) rfl ?_
        case qbox => exact ((((RS.out.set 0 _).set 1 _).set 2 _).set 3 _).set 4 _
        exact ⟨bs, B, nm, _, _, _, _, ims, l, us, os, rfl, hnm20, hi1, hi1'.out, hl3, hl9, HDR.out, hu1, hu1'.out, by omega, OS.out, ⟨(SC.out.home hsz3 ((((((Only.refl _ _).set 0 _).set 1 _).set 2 _).set 3 _).set 4 _)).cur.more (by omega), (SC.out.home hsz3 ((((((Only.refl _ _).set 0 _).set 1 _).set 2 _).set 3 _).set 4 _)).on, (SC.out.home hsz3 ((((((Only.refl _ _).set 0 _).set 1 _).set 2 _).set 3 _).set 4 _)).box, (SC.out.home hsz3 ((((((Only.refl _ _).set 0 _).set 1 _).set 2 _).set 3 _).set 4 _)).ims, (SC.out.home hsz3 ((((((Only.refl _ _).set 0 _).set 1 _).set 2 _).set 3 _).set 4 _)).types, (SC.out.home hsz3 ((((((Only.refl _ _).set 0 _).set 1 _).set 2 _).set 3 _).set 4 _)).uses, (SC.out.home hsz3 ((((((Only.refl _ _).set 0 _).set 1 _).set 2 _).set 3 _).set 4 _)).objs, SC.out.lo, SC.out.hB, (SC.out.home hsz3 ((((((Only.refl _ _).set 0 _).set 1 _).set 2 _).set 3 _).set 4 _)).hw, SC.out.g0, SC.out.tlt, SC.out.ilt, SC.out.ult⟩⟩
end Go.Proofs.Ytnhdijkaakjdgaa
