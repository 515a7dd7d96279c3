
/-
  What is proved: what a drawn scope is told as; the contract of the model's anyScope; the contract of the model's draw of a scope, a number and numbers of types; the contract of the draw of DrawMayPut. No condition beside what each theorem states.
-/
import Derived.Test.YtnhdijkaakjdgaaDrawR
import Derived.Test.YtnhdijkaakjdgaaCall
import Derived.Deep.RegionHeld3
import Derived.Test.YtnhdijkaakjdgaaDrawU
namespace Go.Proofs.Ytnhdijkaakjdgaa
open Go.ChangeShapes Go.WideShapes Go.ChangeAt Go.RowKit
set_option maxRecDepth 100000

/-- One object of a row is given another Type. -/
theorem row_setT {P : Nat → Prop} {B b n c k : Nat} {w : World} {l : List ObjectD} (h : OwnG objectS 43 B P w (.slice (some ⟨b, 0, none⟩) n c) l) (hk : k < l.length) (x : Int) :
    OwnG objectS 43 B P (w.setCell ⟨b, k * 6 + 3, none⟩ (.int .i64 x)) (.slice (some ⟨b, 0, none⟩) n c) (l.set k ⟨l[k].fName, l[k].fKind, l[k].fMark, x, l[k].fValue, l[k].fParams⟩) := by
  rcases h with ⟨h, _⟩ | ⟨b', cap, cur, hv, h2, h3, h4, h5, h6, h7⟩
  · cases h
  injection hv with hv hn hc
  injection hv with hv
  injection hv with hv
  subst hv hn hc
  have hS : objectS.n = 6 := rfl
  have hsz : cur.size = c * 6 := h6
  have hkc : k * 6 + 6 ≤ c * 6 := by have := Nat.mul_le_mul_right 6 (show k + 1 ≤ c by omega); omega
  have hon : Only b w (w.setCell ⟨b, k * 6 + 3, none⟩ (.int .i64 x)) := (Only.refl b w).set _ _
  have kp : ∀ {c0 : List Value} {t : ObjectD}, objectS.At (fun q => P q ∧ q ≠ b) w c0 t → objectS.At (fun q => P q ∧ q ≠ b) (w.setCell ⟨b, k * 6 + 3, none⟩ (.int .i64 x)) c0 t := fun hc =>
    objectS.keep hc (fun q hq hl => hon.block q hl (fun e => by injection e with e; exact hq.2 e)) hon.size
  refine .inr ⟨b, c, cur.setIfInBounds (k * 6 + 3) (.int .i64 x), by rw [List.length_set], h2, h3.set _ _, by rw [List.length_set]; exact h4, h5, by simpa using h6, fun i hi _ => ?_⟩
  rw [List.length_set] at hi
  obtain ⟨c0, d1, d2⟩ := h7 i hi hi
  by_cases hik : i = k
  · subst hik
    obtain ⟨a3, c3, rfl, d3⟩ := d1
    refine ⟨[.string l[i].fName, .int .i64 l[i].fKind, .int .i64 l[i].fMark, .int .i64 x, .int .i64 l[i].fValue, .slice a3 l[i].fParams.length c3], ?_, fun j hj => ?_⟩
    · rw [List.getElem_set_self]
      obtain ⟨a3', c3', e, d3'⟩ := kp (t := l[i]) ⟨a3, c3, rfl, d3⟩
      injection e with _ e
      injection e with _ e
      injection e with _ e
      injection e with _ e
      injection e with _ e
      injection e with e _
      injection e with e1 _ e2
      subst e1 e2
      exact ⟨a3, c3, rfl, d3'⟩
    · rw [hS] at hj d2 ⊢
      have hold := d2 j hj
      rw [Nat.zero_add] at hold ⊢
      match j, hj with
      | 0, _ => rw [Array.getElem?_setIfInBounds, if_neg (by omega), hold]; rfl
      | 1, _ => rw [Array.getElem?_setIfInBounds, if_neg (by omega), hold]; rfl
      | 2, _ => rw [Array.getElem?_setIfInBounds, if_neg (by omega), hold]; rfl
      | 3, _ => rw [Array.getElem?_setIfInBounds, if_pos (by omega), if_pos (by omega)]; rfl
      | 4, _ => rw [Array.getElem?_setIfInBounds, if_neg (by omega), hold]; rfl
      | 5, _ => rw [Array.getElem?_setIfInBounds, if_neg (by omega), hold]; rfl
  · refine ⟨c0, by rw [List.getElem_set_ne (by omega)]; exact kp d1, fun j hj => ?_⟩
    rw [hS] at hj d2 ⊢
    have hold := d2 j hj
    rw [Nat.zero_add] at hold ⊢
    rw [Array.getElem?_setIfInBounds, if_neg (by omega)]
    exact hold

/-- Short in all its parts. -/
structure ScShort (s : ScopeD) : Prop where
  nm : s.fName.size ≤ 20
  li : s.fImports.length ≤ 1
  mi : ∀ x ∈ s.fImports, x.size ≤ 20
  lt : s.fTypes.length ≤ 9
  mt : ∀ t ∈ s.fTypes, shortT t
  lu : s.fUses.length ≤ 2
  mu : ∀ u ∈ s.fUses, u.fMod.size ≤ 20 ∧ u.fName.size ≤ 20
  lo : s.fObjects.length ≤ 5
  mo : ∀ o ∈ s.fObjects, drawnO o
theorem shortT.md {t : TypeD} (h : shortT t) : t.mod := by
  obtain ⟨h1, h2, h3, h4⟩ := h
  unfold TypeD.mod maxLen
  exact ⟨by omega, by omega, by omega, fun f hf => by have := h4 f hf; omega⟩
/-- A scope in rows of its own from lo on, but for block x, while it is drawn. -/
def Sq (g k lo x : Nat) (w0 : World) (nm : ByteArray) (iv tv ov uv : Value) (w : World) : Prop := ∃ s : ScopeD, s.fName = nm ∧ ScShort s ∧ (∃ a1 a2 a3 a4 c1 c2 c3 c4, iv = .slice a1 s.fImports.length c1 ∧ tv = .slice a2 s.fTypes.length c2 ∧ ov = .slice a3 s.fObjects.length c3 ∧ uv = .slice a4 s.fUses.length c4 ∧ (s.fImports.length ≤ c1 ∧ c1 ≤ maxLen) ∧ (s.fTypes.length ≤ c2 ∧ c2 ≤ maxLen) ∧ (s.fObjects.length ≤ c3 ∧ c3 ≤ maxLen) ∧ (s.fUses.length ≤ c4 ∧ c4 ≤ maxLen) ∧ ScopeR (fun q => lo ≤ q ∧ q ≠ x) w a1 a2 a3 a4 s) ∧ Cur w g k ∧ Only g w0 w
theorem ScopeR.keep {Q : Nat → Prop} {w w' : World} {a1 a2 a3 a4 : Option Addr} {s : ScopeD} (h : ScopeR Q w a1 a2 a3 a4 s) (hb : ∀ b, Q b → b < w.heap.size → w'.heap[b]? = w.heap[b]?) (hs : w.heap.size ≤ w'.heap.size) : ScopeR Q w' a1 a2 a3 a4 s :=
  ⟨h.imports.keep hb hs, h.types.keep hb hs, h.objects.keep hb hs, h.uses.keep hb hs⟩
theorem Sq.turn {g k k' lo x : Nat} {w0 w w' : World} {nm : ByteArray} {iv tv ov uv : Value} (h : Sq g k lo x w0 nm iv tv ov uv w) (hg : g < lo) (hc : Cur w' g k') (ho : Only g w w') : Sq g k' lo x w0 nm iv tv ov uv w' := by
  obtain ⟨s, h1, h2, ⟨a1, a2, a3, a4, c1, c2, c3, c4, e1, e2, e3, e4, e5, e6, e7, e8, hr⟩, _, h5⟩ := h
  exact ⟨s, h1, h2, ⟨a1, a2, a3, a4, c1, c2, c3, c4, e1, e2, e3, e4, e5, e6, e7, e8, hr.keep (fun b hb hl => ho.block b hl (fun e => by injection e with e; omega)) ho.size⟩, hc, h5.trans ho⟩
theorem Sq.home {g k lo x b : Nat} {w0 w w' : World} {nm : ByteArray} {iv tv ov uv : Value} (h : Sq g k lo x w0 nm iv tv ov uv w) (hb : b < lo ∨ b = x) (hg : g < b) (h0 : w0.heap.size ≤ b) (ho : Only b w w') : Sq g k lo x w0 nm iv tv ov uv w' := by
  obtain ⟨s, h1, h2, ⟨a1, a2, a3, a4, c1, c2, c3, c4, e1, e2, e3, e4, e5, e6, e7, e8, hr⟩, h4, h5⟩ := h
  exact ⟨s, h1, h2, ⟨a1, a2, a3, a4, c1, c2, c3, c4, e1, e2, e3, e4, e5, e6, e7, e8, hr.keep (fun q hq hl => ho.block q hl (fun e => by injection e with e; omega)) ho.size⟩, h4.far ho hg, h5.far ho h0⟩
theorem Sq.on {g k lo x : Nat} {w0 w : World} {nm : ByteArray} {iv tv ov uv : Value} (h : Sq g k lo x w0 nm iv tv ov uv w) : Only g w0 w := by
  obtain ⟨s, _, _, _, _, h5⟩ := h
  exact h5
theorem Sq.cur {g k lo x : Nat} {w0 w : World} {nm : ByteArray} {iv tv ov uv : Value} (h : Sq g k lo x w0 nm iv tv ov uv w) : Cur w g k := by
  obtain ⟨s, _, _, _, h4, _⟩ := h
  exact h4
theorem Sq.nil {g k lo x : Nat} {w0 w : World} {nm : ByteArray} {iv tv ov uv : Value} (h : Sq g k lo x w0 nm iv tv ov uv w) : nm.size ≤ 20 := by
  obtain ⟨s, rfl, h2, _⟩ := h
  exact h2.nm
theorem Sq.name {g k lo x : Nat} {w0 w : World} {nm nm' : ByteArray} {iv tv ov uv : Value} (h : Sq g k lo x w0 nm iv tv ov uv w) (hn : nm'.size ≤ 20) : Sq g k lo x w0 nm' iv tv ov uv w := by
  obtain ⟨s, h1, h2, ⟨a1, a2, a3, a4, c1, c2, c3, c4, e1, e2, e3, e4, e5, e6, e7, e8, hr⟩, h4, h5⟩ := h
  exact ⟨⟨nm', s.fImports, s.fTypes, s.fObjects, s.fUses⟩, rfl, ⟨hn, h2.li, h2.mi, h2.lt, h2.mt, h2.lu, h2.mu, h2.lo, h2.mo⟩, ⟨a1, a2, a3, a4, c1, c2, c3, c4, e1, e2, e3, e4, e5, e6, e7, e8, ⟨hr.imports, hr.types, hr.objects, hr.uses⟩⟩, h4, h5⟩
theorem Sq.anyT {g k k' lo x B n c : Nat} {w0 w w1 w' : World} {nm : ByteArray} {iv tv ov uv : Value} {a : Option Addr} (h : Sq g k lo x w0 nm iv tv ov uv w) (hg : g < lo) (hB : lo ≤ B) (hx : x < B) (ht : AnyT g k' B w1 a n c w') (ho : Only g w w') : Sq g k' lo x w0 nm iv (.slice a n c) ov uv w' := by
  obtain ⟨s, h1, h2, ⟨a1, a2, a3, a4, c1, c2, c3, c4, e1, e2, e3, e4, e5, e6, e7, e8, hr⟩, h4, h5⟩ := h
  obtain ⟨l, rfl, d2, d3, d4, d5, d6, d7, _⟩ := ht
  have hr' := hr.keep (fun b hb hl => ho.block b hl (fun e => by injection e with e; omega)) ho.size
  exact ⟨⟨nm, s.fImports, l, s.fObjects, s.fUses⟩, rfl, ⟨h1 ▸ h2.nm, h2.li, h2.mi, d4, d6, h2.lu, h2.mu, h2.lo, h2.mo⟩, ⟨a1, a, a3, a4, c1, c, c3, c4, e1, rfl, e3, e4, e5, ⟨d2, d3⟩, e7, e8, ⟨hr'.imports, (rowsZ d5).mono (fun q hq _ => ⟨by omega, by omega⟩), hr'.objects, hr'.uses⟩⟩, d7, h5.trans ho⟩
theorem Sq.objs {g k lo x : Nat} {w0 w : World} {nm : ByteArray} {iv tv ov uv : Value} {a : Option Addr} {c : Nat} {os : List ObjectD} (h : Sq g k lo x w0 nm iv tv ov uv w) (hr : Rows objectS (fun q => lo ≤ q ∧ q ≠ x) w a os) (hc : os.length ≤ c ∧ c ≤ maxLen) (h5 : os.length ≤ 5) (hd : ∀ o ∈ os, drawnO o) : Sq g k lo x w0 nm iv tv (.slice a os.length c) uv w := by
  obtain ⟨s, h1, h2, ⟨a1, a2, a3, a4, c1, c2, c3, c4, e1, e2, e3, e4, e5, e6, e7, e8, hr'⟩, h4, h6⟩ := h
  exact ⟨⟨nm, s.fImports, s.fTypes, os, s.fUses⟩, rfl, ⟨h1 ▸ h2.nm, h2.li, h2.mi, h2.lt, h2.mt, h2.lu, h2.mu, h5, hd⟩, ⟨a1, a2, a, a4, c1, c2, c, c4, e1, e2, rfl, e4, e5, e6, hc, e8, ⟨hr'.imports, hr'.types, hr, hr'.uses⟩⟩, h4, h6⟩
theorem Sq.uses {g k lo x : Nat} {w0 w : World} {nm : ByteArray} {iv tv ov uv : Value} {a : Option Addr} {c : Nat} {us : List UseD} (h : Sq g k lo x w0 nm iv tv ov uv w) (hr : Rows useS (fun q => lo ≤ q ∧ q ≠ x) w a us) (hc : us.length ≤ c ∧ c ≤ maxLen) (h5 : us.length ≤ 2) (hd : ∀ u ∈ us, u.fMod.size ≤ 20 ∧ u.fName.size ≤ 20) : Sq g k lo x w0 nm iv tv ov (.slice a us.length c) w := by
  obtain ⟨s, h1, h2, ⟨a1, a2, a3, a4, c1, c2, c3, c4, e1, e2, e3, e4, e5, e6, e7, e8, hr'⟩, h4, h6⟩ := h
  exact ⟨⟨nm, s.fImports, s.fTypes, s.fObjects, us⟩, rfl, ⟨h1 ▸ h2.nm, h2.li, h2.mi, h2.lt, h2.mt, h5, hd, h2.lo, h2.mo⟩, ⟨a1, a2, a3, a, c1, c2, c3, c, e1, e2, e3, rfl, e5, e6, e7, hc, ⟨hr'.imports, hr'.types, hr'.objects, hr⟩⟩, h4, h6⟩
/-- The parts of a drawn scope, in rows that lie apart from one another, all of them from lo on and ahead of sb. -/
structure Sr (g bs B sb lo : Nat) (w0 : World) (iv tv uv ov : Value) (ims : List ByteArray) (l : List TypeD) (us : List UseD) (os : List ObjectD) (w : World) (k : Nat) : Prop where
  cur : Cur w g k
  on : Only g w0 w
  ims : OwnG strS 9 lo Nowhere w iv ims
  types : OwnG typeZ 31 lo (fun q => lo ≤ q ∧ q < bs) w tv l
  uses : OwnG useS 100 lo Nowhere w uv us
  objs : OwnG objectS 43 B (fun q => B ≤ q ∧ q < sb) w ov os
  hlo : lo ≤ bs
  hB : bs < B
  hsb : B ≤ sb
  hw : sb ≤ w.heap.size
  hg : g < lo
  hw0 : w0.heap.size ≤ lo
  tlt : ∀ q, tv.ownBlock = some q → q < bs
  ilt : ∀ q, iv.ownBlock = some q → bs < q ∧ q < B
  ult : ∀ q, uv.ownBlock = some q → bs < q ∧ q < B ∧ iv.ownBlock ≠ some q
  olt : ∀ q, ov.ownBlock = some q → q < sb
section
variable {g bs B sb lo k : Nat} {w0 w w' : World} {iv tv uv ov : Value} {ims : List ByteArray} {l : List TypeD} {us : List UseD} {os : List ObjectD}
theorem Sr.turn {k' : Nat} (h : Sr g bs B sb lo w0 iv tv uv ov ims l us os w k) (hc : Cur w' g k') (ho : Only g w w') : Sr g bs B sb lo w0 iv tv uv ov ims l us os w' k' where
  cur := hc
  on := h.on.trans ho
  ims := h.ims.keep (fun q hq hl => ho.block q hl (fun e => by
    have := h.hg
    injection e with e
    rcases hq with h1 | h1
    · exact h1.elim
    · have := (h.ims.lt q h1).1; omega)) ho.size
  types := h.types.keep (fun q hq hl => ho.block q hl (fun e => by
    have := h.hg
    injection e with e
    rcases hq with h1 | h1
    · have := h1.1; omega
    · have := (h.types.lt q h1).1; omega)) ho.size
  uses := h.uses.keep (fun q hq hl => ho.block q hl (fun e => by
    have := h.hg
    injection e with e
    rcases hq with h1 | h1
    · exact h1.elim
    · have := (h.uses.lt q h1).1; omega)) ho.size
  objs := h.objs.keep (fun q hq hl => ho.block q hl (fun e => by
    have := h.hg
    have := h.hlo
    have := h.hB
    injection e with e
    rcases hq with h1 | h1
    · have := h1.1; omega
    · have := (h.objs.lt q h1).1; omega)) ho.size
  hlo := h.hlo
  hB := h.hB
  hsb := h.hsb
  hw := Nat.le_trans h.hw ho.size
  hg := h.hg
  hw0 := h.hw0
  tlt := h.tlt
  ilt := h.ilt
  ult := h.ult
  olt := h.olt
theorem Sr.below (h : Sr g bs B sb lo w0 iv tv uv ov ims l us os w k) (hb : Below w.heap.size w w') : Sr g bs B sb lo w0 iv tv uv ov ims l us os w' k := h.turn (h.cur.below hb h.cur.lt) (Only.ofBelow hb)
theorem Sr.base {w1 : World} (h : Sr g bs B sb lo w0 iv tv uv ov ims l us os w k) (ho : Only g w1 w) (hs : w1.heap.size ≤ lo) : Sr g bs B sb lo w1 iv tv uv ov ims l us os w k :=
  ⟨h.cur, ho, h.ims, h.types, h.uses, h.objs, h.hlo, h.hB, h.hsb, h.hw, h.hg, hs, h.tlt, h.ilt, h.ult, h.olt⟩
theorem Sr.setT {b c : Nat} (h : Sr g bs B sb lo w0 iv tv uv (.slice (some ⟨b, 0, none⟩) os.length c) ims l us os w k) (hk : 0 < os.length) (x : Int) :
    Sr g bs B sb lo w0 iv tv uv (.slice (some ⟨b, 0, none⟩) os.length c) ims l us (os.set 0 ⟨os[0].fName, os[0].fKind, os[0].fMark, x, os[0].fValue, os[0].fParams⟩) (w.setCell ⟨b, 3, none⟩ (.int .i64 x)) k := by
  have hb := (h.objs.lt b (ownBlock_slice _ _ _)).1
  have h0 := h.hlo
  have h1 := h.hB
  have h2 := h.hg
  have h3 := h.hw0
  have hon : Only b w (w.setCell ⟨b, 3, none⟩ (.int .i64 x)) := (Only.refl b w).set _ _
  refine ⟨h.cur.far hon (by omega), h.on.far hon (by omega), ?_, ?_, ?_, ?_, h0, h1, h.hsb, Nat.le_trans h.hw hon.size, h2, h3, h.tlt, h.ilt, h.ult, h.olt⟩
  · exact h.ims.keep (fun q hq hl => hon.block q hl (fun e => by
      injection e with e
      rcases hq with hq | hq
      · exact hq.elim
      · have := h.ilt q hq; omega)) hon.size
  · exact h.types.keep (fun q hq hl => hon.block q hl (fun e => by
      injection e with e
      rcases hq with hq | hq
      · have := hq.2; omega
      · have := h.tlt q hq; omega)) hon.size
  · exact h.uses.keep (fun q hq hl => hon.block q hl (fun e => by
      injection e with e
      rcases hq with hq | hq
      · exact hq.elim
      · have := h.ult q hq; omega)) hon.size
  · exact row_setT (k := 0) h.objs hk x
theorem Sr.alloc (h : Sr g bs B sb lo w0 iv tv uv ov ims l us os w k) (o : Obj) : Sr g bs B sb lo w0 iv tv uv ov ims l us os (w.alloc o) k := h.below ((Below.refl _ _).alloc (Nat.le_refl _) o)
/-- The Type of the first object. -/
theorem Sr.cell3 {b c : Nat} (h : Sr g bs B sb lo w0 iv tv uv (.slice (some ⟨b, 0, none⟩) os.length c) ims l us os w k) (hk : 0 < os.length) : ∃ x : Int, w.cell? ⟨b, 3, none⟩ = some (.int .i64 x) := by
  obtain ⟨a, _, hv, _, _, hr⟩ := OwnG.rows (Q := Any) h.objs (fun _ _ _ => trivial) (fun _ _ => trivial)
  obtain ⟨b', o, cs, e, _, _, hc, _, _, rfl, _⟩ := hr 0 hk
  injection hv with hv
  rw [← hv] at e
  cases e
  have := hc 3 (by decide)
  simp at this
  exact ⟨_, this⟩
/-- What the draw of a scope leaves. -/
theorem Sc.sr {nm : ByteArray} (h : Sc g bs B w0 nm iv tv uv ov ims l us os w k) : Sr g bs B w.heap.size w0.heap.size w0 iv tv uv ov ims l us os w k where
  cur := h.cur
  on := h.on
  ims := h.ims
  types := (h.types.lower (Nat.le_succ _)).mono (fun q hq _ => ⟨by omega, hq.2⟩)
  uses := h.uses
  objs := h.objs.mono (fun q hq hl => ⟨hq, hl⟩)
  hlo := h.lo
  hB := h.hB
  hsb := h.hw
  hw := Nat.le_refl _
  hg := h.g0
  hw0 := Nat.le_refl _
  tlt := h.tlt
  ilt := fun q hq => by have := h.ilt q hq; omega
  ult := fun q hq => by have := h.ult q hq; exact ⟨this.2.1, this.1, this.2.2⟩
  olt := fun q hq => (h.objs.lt q hq).2
/-- It is one such. -/
theorem Sr.sq {nm : ByteArray} (h : Sr g bs B sb lo w0 iv tv uv ov ims l us os w k)
    (hn : nm.size ≤ 20) (h1 : ims.length ≤ 1) (h2 : ∀ x ∈ ims, x.size ≤ 20) (h3 : l.length ≤ 9) (h4 : ∀ t ∈ l, drawnT l.length t) (h5 : us.length ≤ 2) (h6 : ∀ u ∈ us, u.fMod.size ≤ 20 ∧ u.fName.size ≤ 20) (h7 : os.length ≤ 5) (h8 : ∀ o ∈ os, drawnO o) :
    Sq g k lo sb w0 nm iv tv ov uv w := by
  have hlo := h.hlo
  have hBl := h.hB
  have hsb := h.hsb
  obtain ⟨a1, c1, e1, i1, j1, r1⟩ := OwnG.rows (Q := fun q => lo ≤ q ∧ q ≠ sb) h.ims (fun q hq _ => hq.elim) (fun q hq => by have := h.ilt q hq; omega)
  obtain ⟨a2, c2, e2, i2, j2, r2⟩ := OwnG.rows (Q := fun q => lo ≤ q ∧ q ≠ sb) h.types (fun q hq _ => by omega) (fun q hq => by have := (h.types.lt q hq).1; have := h.tlt q hq; omega)
  obtain ⟨a3, c3, e3, i3, j3, r3⟩ := OwnG.rows (Q := fun q => lo ≤ q ∧ q ≠ sb) h.objs (fun q hq _ => by omega) (fun q hq => by have := (h.objs.lt q hq).1; have := h.olt q hq; omega)
  obtain ⟨a4, c4, e4, i4, j4, r4⟩ := OwnG.rows (Q := fun q => lo ≤ q ∧ q ≠ sb) h.uses (fun q hq _ => hq.elim) (fun q hq => by have := h.ult q hq; omega)
  exact ⟨⟨nm, ims, l, os, us⟩, rfl, ⟨hn, h1, h2, h3, fun t ht => drawn_short (h4 t ht), h5, h6, h7, h8⟩, ⟨a1, a2, a3, a4, c1, c2, c3, c4, e1, e2, e3, e4, ⟨i1, j1⟩, ⟨i2, j2⟩, ⟨i3, j3⟩, ⟨i4, j4⟩, ⟨r1, rowsZ r2, r3, r4⟩⟩, h.cur, h.on⟩
/-- One more use. -/
theorem Sr.pushU {nm : ByteArray} {uv' : Value} {u : UseD} (h : Sr g bs B sb lo w0 iv tv uv ov ims l us os w k) (hsw : sb < w.heap.size) (hown : OwnG useS 100 lo Nowhere w' uv' (us ++ [u])) (hg : w.grownBy w' uv.ownBlock) (hv : uv'.ownBlock = uv.ownBlock ∨ uv'.ownBlock = some w.heap.size)
    (hn : nm.size ≤ 20) (h1 : ims.length ≤ 1) (h2 : ∀ x ∈ ims, x.size ≤ 20) (h3 : l.length ≤ 9) (h4 : ∀ t ∈ l, drawnT l.length t) (h5 : us.length ≤ 1) (h6 : ∀ x ∈ us ++ [u], x.fMod.size ≤ 20 ∧ x.fName.size ≤ 20) (h7 : os.length ≤ 5) (h8 : ∀ o ∈ os, drawnO o) :
    Sq g k lo sb w0 nm iv tv ov uv' w' := by
  have hlo := h.hlo
  have hBl := h.hB
  have hsb := h.hsb
  have hgl := h.hg
  have hw0 := h.hw0
  have kp : ∀ q, q < w.heap.size → (¬ (bs < q ∧ q < B) ∨ iv.ownBlock = some q) → w'.heap[q]? = w.heap[q]? := fun q hq hn => hg.block q hq (fun e => by
    have := h.ult q e.symm
    rcases hn with hn | hn
    · exact hn ⟨this.1, this.2.1⟩
    · exact this.2.2 hn)
  obtain ⟨a1, c1, e1, i1, j1, r1⟩ := OwnG.rows (Q := fun q => lo ≤ q ∧ q ≠ sb) (h.ims.keep (fun q hq hl => by
    rcases hq with hq | hq
    · exact hq.elim
    · exact kp q hl (.inr hq)) hg.size) (fun q hq _ => hq.elim) (fun q hq => by have := h.ilt q hq; omega)
  obtain ⟨a2, c2, e2, i2, j2, r2⟩ := OwnG.rows (Q := fun q => lo ≤ q ∧ q ≠ sb) (h.types.keep (fun q hq hl => by
    rcases hq with hq | hq
    · exact kp q hl (.inl (by omega))
    · exact kp q hl (.inl (by have := h.tlt q hq; omega))) hg.size) (fun q hq _ => by omega) (fun q hq => by have := (h.types.lt q hq).1; have := h.tlt q hq; omega)
  obtain ⟨a3, c3, e3, i3, j3, r3⟩ := OwnG.rows (Q := fun q => lo ≤ q ∧ q ≠ sb) (h.objs.keep (fun q hq hl => by
    rcases hq with hq | hq
    · exact kp q hl (.inl (by omega))
    · exact kp q hl (.inl (by have := (h.objs.lt q hq).1; omega))) hg.size) (fun q hq _ => by omega) (fun q hq => by have := (h.objs.lt q hq).1; have := h.olt q hq; omega)
  obtain ⟨a4, c4, e4, i4, j4, r4⟩ := OwnG.rows (Q := fun q => lo ≤ q ∧ q ≠ sb) hown (fun q hq _ => hq.elim) (fun q hq => by
    have h9 := (hown.lt q hq).1
    refine ⟨h9, fun e => ?_⟩
    rcases hv with hv | hv
    · rw [hv] at hq
      have := h.ult q hq
      omega
    · rw [hv] at hq
      injection hq with hq
      omega)
  refine ⟨⟨nm, ims, l, os, us ++ [u]⟩, rfl, ⟨hn, h1, h2, h3, fun t ht => drawn_short (h4 t ht), by show (us ++ [u]).length ≤ 2; simp; omega, h6, h7, h8⟩, ⟨a1, a2, a3, a4, c1, c2, c3, c4, e1, e2, e3, e4, ⟨i1, j1⟩, ⟨i2, j2⟩, ⟨i3, j3⟩, ⟨i4, j4⟩, ⟨r1, rowsZ r2, r3, r4⟩⟩, h.cur.grown hg (fun r hr => by have := h.ult r hr; omega), h.on.grownB hg (fun r hr => by have := h.ult r hr; omega)⟩
end
/-- A scope that was drawn. -/
def AnyS (g k lo : Nat) (w0 : World) (v : Value) (w : World) : Prop := ∃ s a1 a2 a3 a4 c1 c2 c3 c4, v = .agg (scopeC s a1 a2 a3 a4 c1 c2 c3 c4) ∧ ScShort s ∧ (s.fImports.length ≤ c1 ∧ c1 ≤ maxLen) ∧ (s.fTypes.length ≤ c2 ∧ c2 ≤ maxLen) ∧ (s.fObjects.length ≤ c3 ∧ c3 ≤ maxLen) ∧ (s.fUses.length ≤ c4 ∧ c4 ≤ maxLen) ∧ ScopeR (fun q => lo ≤ q) w a1 a2 a3 a4 s ∧ Cur w g k ∧ Only g w0 w
theorem ScopeR.mono {Q Q' : Nat → Prop} {w : World} {a1 a2 a3 a4 : Option Addr} {s : ScopeD} (h : ScopeR Q w a1 a2 a3 a4 s) (hq : ∀ b, Q b → b < w.heap.size → Q' b) : ScopeR Q' w a1 a2 a3 a4 s :=
  ⟨h.imports.mono hq, h.types.mono hq, h.objects.mono hq, h.uses.mono hq⟩
theorem Sq.told {g k k' lo x lo' : Nat} {w0 w0' w : World} {nm : ByteArray} {iv tv ov uv : Value} (h : Sq g k lo x w0 nm iv tv ov uv w) (hk : k ≤ k') (hlo : lo' ≤ lo) (ho : Only g w0' w) : AnyS g k' lo' w0' (.agg #[.string nm, iv, tv, ov, uv]) w := by
  obtain ⟨s, rfl, h2, ⟨a1, a2, a3, a4, c1, c2, c3, c4, rfl, rfl, rfl, rfl, e5, e6, e7, e8, hr⟩, h4, _⟩ := h
  exact ⟨s, a1, a2, a3, a4, c1, c2, c3, c4, rfl, h2, e5, e6, e7, e8, hr.mono (fun q hq _ => by omega), h4.more hk, ho⟩
set_option maxHeartbeats 32000000 in
theorem cAnyScope (g k : Nat) (w : World) (hk : k ≤ 700000) (hc : Cur w g k) :
    Calls Try.prog 26 #[.pointer (some ⟨g, 0, none⟩)] w fun e w' => ∃ v, e = .returned v ∧ AnyS g (k + 4000) w.heap.size w v w' := by
  have hgw := hc.lt
  have C1 := Lib.hid (hc.below ((Below.refl w.heap.size w).alloc (Nat.le_refl _) (.cells #[.string ⟨#[]⟩, .slice none 0 0, .slice none 0 0, .slice none 0 0, .slice none 0 0] 36)) hgw)
  have O1 := Lib.hid ((Only.refl g w).alloc (.cells #[.string ⟨#[]⟩, .slice none 0 0, .slice none 0 0, .slice none 0 0, .slice none 0 0] 36))
  have R1 := Lib.hid (Box.new w 36 #[.string ⟨#[]⟩, .slice none 0 0, .slice none 0 0, .slice none 0 0, .slice none 0 0])
  clear hc
  go_enter Try.func26, Try.ntmps26
  go_wp2_with fail
  have hs1 : (w.alloc (.cells #[.string ⟨#[]⟩, .slice none 0 0, .slice none 0 0, .slice none 0 0, .slice none 0 0] 36)).heap.size = w.heap.size + 1 := by simp
  generalize w.alloc (.cells #[.string ⟨#[]⟩, .slice none 0 0, .slice none 0 0, .slice none 0 0, .slice none 0 0] 36) = w1 at *
  have hs1a : w.heap.size < w1.heap.size := by omega
  clear hs1
  refine (cScope g k _ (by omega) C1.out).mono ?_
  rintro e w2 ⟨bs, B, nm, iv, tv, uv, ov, ims, l, us, os, rfl, hnm, hi1, hi2, hl3, hl9, hdr, hu1, hu2, ho5, hod, hsc⟩
  have h12 := hsc.on.size
  obtain ⟨oa, oc, rfl, _, _, _⟩ := OwnG.rows (Q := Any) hsc.objs (fun _ _ _ => trivial) (fun _ _ => trivial)
  obtain ⟨ia, ic, rfl, _, _, _⟩ := OwnG.rows (Q := Any) hsc.ims (fun _ _ _ => trivial) (fun _ _ => trivial)
  obtain ⟨ua, uc, rfl, _, _, _⟩ := OwnG.rows (Q := Any) hsc.uses (fun _ _ _ => trivial) (fun _ _ => trivial)
  obtain ⟨ta, tc, rfl, _, _, _⟩ := OwnG.rows (Q := Any) hsc.types (fun _ _ _ => trivial) (fun _ _ => trivial)
  have SR3 := Lib.hid ((hsc.sr.below ((Below.refl _ _).alloc (Nat.le_refl _) (.cells #[.string nm, .slice ia ims.length ic, .slice ta l.length tc, .slice oa os.length oc, .slice ua us.length uc] 36))).base ((O1.out.trans hsc.on).alloc (.cells #[.string nm, .slice ia ims.length ic, .slice ta l.length tc, .slice oa os.length oc, .slice ua us.length uc] 36)) (by omega : w.heap.size ≤ w1.heap.size))
  have X3 := Lib.hid (Box.new w2 36 #[.string nm, .slice ia ims.length ic, .slice ta l.length tc, .slice oa os.length oc, .slice ua us.length uc])
  have R3 := Lib.hid ((R1.out.only hsc.on (by omega)).alloc (.cells #[.string nm, .slice ia ims.length ic, .slice ta l.length tc, .slice oa os.length oc, .slice ua us.length uc] 36))
  have HOD := Lib.hid hod
  have HU2 := Lib.hid hu2
  have HI2 := Lib.hid hi2
  have HDR := Lib.hid hdr
  have hbs := hsc.hw
  have hbB := hsc.hB
  have hblo := hsc.lo
  have hw3s : w2.heap.size < (w2.alloc (.cells #[.string nm, .slice ia ims.length ic, .slice ta l.length tc, .slice oa os.length oc, .slice ua us.length uc] 36)).heap.size := by simp
  clear hsc C1 O1 R1 hdr hi2 hu2 hod
  go_wp2_with fail
  obtain ⟨sb, hsb⟩ : ∃ n, n = w2.heap.size := ⟨_, rfl⟩
  rw [← hsb] at SR3 X3 hw3s hbs h12 ⊢
  generalize w2.alloc (.cells #[.string nm, .slice ia ims.length ic, .slice ta l.length tc, .slice oa os.length oc, .slice ua us.length uc] 36) = w3 at *
  clear hsb
  refine (cPick g _ 30 _ (by omega) (by omega) (by omega) SR3.out.cur).mono ?_
  rintro e w4 ⟨z, ⟨z0, z1⟩, rfl, hc4, ho4⟩
  have hw4s : sb < w4.heap.size := Nat.lt_of_lt_of_le hw3s ho4.size
  have SR4 := Lib.hid (SR3.out.turn hc4 ho4)
  have X4 := Lib.hid (X3.out.only ho4 (by omega))
  have R4 := Lib.hid (R3.out.only ho4 (by omega))
  clear hc4 ho4 SR3 X3 R3
  have SQ4 := Lib.hid (SR4.out.sq (nm := nm) hnm hi1 HI2.out hl9 HDR.out (by omega) HU2.out ho5 HOD.out)
  by_cases h0 : z = 0
  · subst h0
    clear SR4 HOD HU2 HI2 HDR
    go_wp2_with fail
    refine (cOfLit g (k + 2000 + 2) [⟨#[]⟩, ⟨#[49]⟩, ⟨#[66, 97, 115, 101]⟩] 20 _ _ (by omega) (by decide) (by decide) SQ4.out.cur (by decide) rfl).mono ?_
    rintro e w5 ⟨s1, hs1, rfl, hc5, ho5b⟩
    have SQ5 := Lib.hid ((SQ4.out.turn (by omega) hc5 ho5b).name hs1)
    have X5 := Lib.hid (X4.out.only ho5b (by omega))
    have R5 := Lib.hid (R4.out.only ho5b (by omega))
    have y0 : _ = some (Value.string nm) := X5.out.cell 0
    have fy := X5.out.free 0
    have SQ6 := Lib.hid (SQ5.out.home (b := sb) (.inr rfl) (by omega) (by omega) ((Only.refl sb _).set 0 (.string s1)))
    have R6 := Lib.hid (R5.out.only ((Only.refl sb w5).set 0 (.string s1)) (by omega))
    have X6 := Lib.hid (show Box (w5.setCell ⟨sb, 0, none⟩ (.string s1)) sb 36 #[.string s1, .slice ia ims.length ic, .slice ta l.length tc, .slice oa os.length oc, .slice ua us.length uc] from X5.out.set 0 (.string s1))
    clear hc5 ho5b SQ4 X4 R4
    have x0 : _ = some (Value.string s1) := X6.out.cell 0
    have x1 : _ = some (Value.slice ia ims.length ic) := X6.out.cell 1
    have x2 : _ = some (Value.slice ta l.length tc) := X6.out.cell 2
    have x3 : _ = some (Value.slice oa os.length oc) := X6.out.cell 3
    have x4 : _ = some (Value.slice ua us.length uc) := X6.out.cell 4
    have fr := R6.out.free
    have zz0 : _ = some (Value.string ⟨#[]⟩) := R6.out.cell 0
    have zz1 : _ = some (Value.slice none 0 0) := R6.out.cell 1
    have zz2 : _ = some (Value.slice none 0 0) := R6.out.cell 2
    have zz3 : _ = some (Value.slice none 0 0) := R6.out.cell 3
    have zz4 : _ = some (Value.slice none 0 0) := R6.out.cell 4
    go_wp2_with fail
    refine bodyPost_ret (results_one rfl Try.underlying36 rfl _ _ w.heap.size #[.string s1, .slice ia ims.length ic, .slice ta l.length tc, .slice oa os.length oc, .slice ua us.length uc] rfl 36 ?qbox 5 sizeScope rfl) rfl ?_
    case qbox => exact ((((R6.out.set 0 _).set 1 _).set 2 _).set 3 _).set 4 _
    exact ⟨_, rfl, (SQ6.out.home (b := w.heap.size) (.inl (by omega)) hgw (Nat.le_refl _) ((((((Only.refl _ _).set 0 _).set 1 _).set 2 _).set 3 _).set 4 _)).told (by omega) (by omega) (SQ6.out.home (b := w.heap.size) (.inl (by omega)) hgw (Nat.le_refl _) ((((((Only.refl _ _).set 0 _).set 1 _).set 2 _).set 3 _).set 4 _)).on⟩
  have b0 : (z == 0) = false := beq_eq_false_iff_ne.2 h0
  by_cases h1 : z = 1
  · subst h1
    by_cases hos : 0 < os.length
    · obtain ⟨rb, ro, hoa⟩ : ∃ b o, oa = some ⟨b, o, none⟩ := by
        obtain ⟨_, _, hv, _, _, hr⟩ := OwnG.rows (Q := Any) SR4.out.objs (fun _ _ _ => trivial) (fun _ _ => trivial)
        obtain ⟨b, o, _, e, _⟩ := hr 0 hos
        injection hv with hv
        exact ⟨b, o, hv.trans e⟩
      subst hoa
      obtain rfl : ro = 0 := by
        rcases SR4.out.objs with ⟨h, _⟩ | ⟨b', cap, cur, hv, _⟩
        · cases h
        · injection hv with hv
          injection hv with hv
          injection hv
      have hrb := SR4.out.objs.lt rb (ownBlock_slice _ _ _)
      have hrs := SR4.out.olt rb (ownBlock_slice _ _ _)
      have y3 : _ = some (Value.slice (some ⟨rb, 0, none⟩) os.length oc) := X4.out.cell 3
      have hpos : (0 : Int) < (os.length : Int) := by omega
      have hdl : decide ((os.length : Int) > 0) = true := decide_eq_true hpos
      have BD : ∀ o, Below w4.heap.size w4 (w4.alloc o).drew := fun o => ((Below.refl _ _).alloc (Nat.le_refl _) o).drew
      have SRd := Lib.hid (fun o => SR4.out.below (BD o))
      clear SQ4
      go_wp2_with fail
      go_region_held3 (fun w' => w'.cell? ⟨sb, 3, none⟩ = some (.slice (some ⟨rb, 0, none⟩) os.length oc))
        (first | assumption | exact y3 | exact (X4.out.below (BD _) X4.out.lt).cell 3 | exact X5.out.cell 3 | (rw [World.cell?_setCell_far _ _ _ _ (by show rb ≠ sb; omega)]; assumption))
        (first | (go_simp; go_at_call 54; refine (cAmong g _ _ _ [-1, 24, 0] _ (by omega) (by decide) (by decide) (SRd.out _).cur (Ints.litAt _ _ _ _ (by simp)) (fun b o e => by injection e with e; injection e with e; have := SR4.out.cur.lt; omega)).mono ?_; rintro e w5 ⟨x, hx, rfl, hc5, ho5b⟩; have X5 := Lib.hid ((X4.out.below (BD _) X4.out.lt).only ho5b (by omega)); have SR5 := Lib.hid ((SRd.out _).turn hc5 ho5b); have R5 := Lib.hid ((R4.out.below (BD _) R4.out.lt).only ho5b (by omega)); obtain ⟨cu5, bx5, _⟩ := OwnG.boxOf SR5.out.objs; obtain ⟨e3v, e3⟩ := SR5.out.cell3 hos; have f3 := bx5.free 3; clear hc5 ho5b))
      have SR6 := Lib.hid (SR5.out.setT hos x)
      have R6 := Lib.hid (R5.out.only ((Only.refl rb w5).set 3 (.int .i64 x)) (by omega))
      have X6 := Lib.hid (X5.out.only ((Only.refl rb w5).set 3 (.int .i64 x)) (by omega))
      have HOD6 := Lib.hid (show ∀ o ∈ os.set 0 ⟨os[0].fName, os[0].fKind, os[0].fMark, x, os[0].fValue, os[0].fParams⟩, drawnO o from fun o ho => by
        rcases List.mem_or_eq_of_mem_set ho with h | rfl
        · exact HOD.out o h
        · have h0 := HOD.out _ (List.getElem_mem hos)
          exact ⟨h0.1, h0.2.1, h0.2.2⟩)
      have SQ6 := Lib.hid (SR6.out.sq (nm := nm) hnm hi1 HI2.out hl9 HDR.out (by omega) HU2.out (by rw [List.length_set]; exact ho5) HOD6.out)
      clear SR6 SR5 SRd R5 X5 e3 f3 y3 SR4 X4 R4 HOD6
      have x0 : _ = some (Value.string nm) := X6.out.cell 0
      have x1 : _ = some (Value.slice ia ims.length ic) := X6.out.cell 1
      have x2 : _ = some (Value.slice ta l.length tc) := X6.out.cell 2
      have x3 : _ = some (Value.slice (some ⟨rb, 0, none⟩) os.length oc) := X6.out.cell 3
      have x4 : _ = some (Value.slice ua us.length uc) := X6.out.cell 4
      have fr := R6.out.free
      have zz0 : _ = some (Value.string ⟨#[]⟩) := R6.out.cell 0
      have zz1 : _ = some (Value.slice none 0 0) := R6.out.cell 1
      have zz2 : _ = some (Value.slice none 0 0) := R6.out.cell 2
      have zz3 : _ = some (Value.slice none 0 0) := R6.out.cell 3
      have zz4 : _ = some (Value.slice none 0 0) := R6.out.cell 4
      go_wp2_with fail
      refine bodyPost_ret (results_one rfl Try.underlying36 rfl _ _ w.heap.size #[.string nm, .slice ia ims.length ic, .slice ta l.length tc, .slice (some ⟨rb, 0, none⟩) os.length oc, .slice ua us.length uc] rfl 36 ?qbox 5 sizeScope rfl) rfl ?_
      case qbox => exact ((((R6.out.set 0 _).set 1 _).set 2 _).set 3 _).set 4 _
      exact ⟨_, rfl, (SQ6.out.home (b := w.heap.size) (.inl (by omega)) hgw (Nat.le_refl _) ((((((Only.refl _ _).set 0 _).set 1 _).set 2 _).set 3 _).set 4 _)).told (by omega) (by omega) (SQ6.out.home (b := w.heap.size) (.inl (by omega)) hgw (Nat.le_refl _) ((((((Only.refl _ _).set 0 _).set 1 _).set 2 _).set 3 _).set 4 _)).on⟩
    · have hdl : decide ((os.length : Int) > 0) = false := decide_eq_false (by omega)
      clear SR4 HOD HU2 HI2 HDR
      have x0 : _ = some (Value.string nm) := X4.out.cell 0
      have x1 : _ = some (Value.slice ia ims.length ic) := X4.out.cell 1
      have x2 : _ = some (Value.slice ta l.length tc) := X4.out.cell 2
      have x3 : _ = some (Value.slice oa os.length oc) := X4.out.cell 3
      have x4 : _ = some (Value.slice ua us.length uc) := X4.out.cell 4
      have fr := R4.out.free
      have zz0 : _ = some (Value.string ⟨#[]⟩) := R4.out.cell 0
      have zz1 : _ = some (Value.slice none 0 0) := R4.out.cell 1
      have zz2 : _ = some (Value.slice none 0 0) := R4.out.cell 2
      have zz3 : _ = some (Value.slice none 0 0) := R4.out.cell 3
      have zz4 : _ = some (Value.slice none 0 0) := R4.out.cell 4
      go_wp2_with fail
      refine bodyPost_ret (results_one rfl Try.underlying36 rfl _ _ w.heap.size #[.string nm, .slice ia ims.length ic, .slice ta l.length tc, .slice oa os.length oc, .slice ua us.length uc] rfl 36 ?qbox 5 sizeScope rfl) rfl ?_
      case qbox => exact ((((R4.out.set 0 _).set 1 _).set 2 _).set 3 _).set 4 _
      exact ⟨_, rfl, (SQ4.out.home (b := w.heap.size) (.inl (by omega)) hgw (Nat.le_refl _) ((((((Only.refl _ _).set 0 _).set 1 _).set 2 _).set 3 _).set 4 _)).told (by omega) (by omega) (SQ4.out.home (b := w.heap.size) (.inl (by omega)) hgw (Nat.le_refl _) ((((((Only.refl _ _).set 0 _).set 1 _).set 2 _).set 3 _).set 4 _)).on⟩
  have b1 : (z == 1) = false := beq_eq_false_iff_ne.2 h1
  by_cases h2 : z = 2
  · subst h2
    have y4 : _ = some (Value.slice ua us.length uc) := X4.out.cell 4
    have hul := SR4.out.uses.lt
    have hut := SR4.out.ult
    obtain ⟨i0, hi, hz0, hz1, hz2⟩ := info_parts infoUse
    have Hi := Lib.hid (And.intro hi (And.intro hz0 (And.intro hz1 hz2)))
    clear hi hz0 hz1 hz2 SQ4
    go_wp2_with (at_builtin; refine wpList_pushG rfl _ _ _ rfl useS 100 i0 (.agg #[.string ByteArray.empty, .string ByteArray.empty]) 32 Try.underlying34 ?q1 ?q2 ?q3 ?q4 rfl (by decide) (by omega) w1.heap.size Nowhere _ _ us rfl ?q5 ⟨⟨#[67]⟩, ⟨#[120]⟩⟩ [.string ⟨#[67]⟩, .string ⟨#[120]⟩] _ _ rfl ?q6 ?q7 ?q8 ?q9 ?q10 ?_)
    case q1 => exact Hi.out.1
    case q2 => exact Hi.out.2.1
    case q3 => exact Hi.out.2.2.1
    case q4 => exact Hi.out.2.2.2
    case q5 => exact (SR4.out.alloc _).uses
    case q6 =>
      intro j _
      refine Eq.trans ((Box.new' (g := w4.heap.size) _ 100 #[.string ⟨#[67]⟩, .string ⟨#[120]⟩] (by first | (simp; done) | (simp [World.setCell]; done))).cell j) ?_
      simp
    case q7 => exact rfl
    case q8 =>
      intro y hy
      simp only [List.mem_cons, List.not_mem_nil, or_false] at hy
      rcases hy with rfl | rfl <;> rfl
    case q9 => omega
    case q10 => simp; omega
    intro v9 wn hown9 hg9 hv9
    have SQ5 := Lib.hid ((SR4.out.alloc (.cells #[.string ⟨#[67]⟩, .string ⟨#[120]⟩] 100)).pushU (nm := nm) (by simp; omega) hown9 hg9 (by simpa using hv9) hnm hi1 HI2.out hl9 HDR.out hu1 (fun u hu => by
      rcases List.mem_append.1 hu with hu | hu
      · exact HU2.out u hu
      · rw [List.mem_singleton.1 hu]; exact ⟨by decide, by decide⟩) ho5 HOD.out)
    have X5 := Lib.hid ((hg9.block sb (X4.out.alloc (.cells #[.string ⟨#[67]⟩, .string ⟨#[120]⟩] 100)).lt (fun e => by have := hut sb e.symm; omega)).trans (X4.out.alloc (.cells #[.string ⟨#[67]⟩, .string ⟨#[120]⟩] 100)) |> fun b : Box wn sb 36 #[.string nm, .slice ia ims.length ic, .slice ta l.length tc, .slice oa os.length oc, .slice ua us.length uc] => b)
    have R5 := Lib.hid ((hg9.block w.heap.size (R4.out.alloc (.cells #[.string ⟨#[67]⟩, .string ⟨#[120]⟩] 100)).lt (fun e => by have := hut w.heap.size e.symm; omega)).trans (R4.out.alloc (.cells #[.string ⟨#[67]⟩, .string ⟨#[120]⟩] 100)) |> fun b : Box wn w.heap.size 36 #[.string ⟨#[]⟩, .slice none 0 0, .slice none 0 0, .slice none 0 0, .slice none 0 0] => b)
    obtain ⟨ra, rc, rfl, _⟩ := OwnG.rows (Q := Any) hown9 (fun _ _ _ => trivial) (fun _ _ => trivial)
    rw [show (us ++ [(⟨⟨#[67]⟩, ⟨#[120]⟩⟩ : UseD)]).length = us.length + 1 from by simp] at SQ5 ⊢
    clear hown9 hg9 hv9 hut hul y4 SR4 X4 R4
    have y4 : _ = some (Value.slice ua us.length uc) := X5.out.cell 4
    have fy := X5.out.free 4
    have SQ6 := Lib.hid (SQ5.out.home (b := sb) (.inr rfl) (by omega) (by omega) ((Only.refl sb _).set 4 (.slice ra (us.length + 1) rc)))
    have R6 := Lib.hid (R5.out.only ((Only.refl sb wn).set 4 (.slice ra (us.length + 1) rc)) (by omega))
    have X6 := Lib.hid (show Box (wn.setCell ⟨sb, 4, none⟩ (.slice ra (us.length + 1) rc)) sb 36 #[.string nm, .slice ia ims.length ic, .slice ta l.length tc, .slice oa os.length oc, .slice ra (us.length + 1) rc] from X5.out.set 4 (.slice ra (us.length + 1) rc))
    clear SQ5 X5 R5
    have x0 : _ = some (Value.string nm) := X6.out.cell 0
    have x1 : _ = some (Value.slice ia ims.length ic) := X6.out.cell 1
    have x2 : _ = some (Value.slice ta l.length tc) := X6.out.cell 2
    have x3 : _ = some (Value.slice oa os.length oc) := X6.out.cell 3
    have x4 : _ = some (Value.slice ra (us.length + 1) rc) := X6.out.cell 4
    have fr := R6.out.free
    have zz0 : _ = some (Value.string ⟨#[]⟩) := R6.out.cell 0
    have zz1 : _ = some (Value.slice none 0 0) := R6.out.cell 1
    have zz2 : _ = some (Value.slice none 0 0) := R6.out.cell 2
    have zz3 : _ = some (Value.slice none 0 0) := R6.out.cell 3
    have zz4 : _ = some (Value.slice none 0 0) := R6.out.cell 4
    go_wp2_with fail
    refine bodyPost_ret (results_one rfl Try.underlying36 rfl _ _ w.heap.size #[.string nm, .slice ia ims.length ic, .slice ta l.length tc, .slice oa os.length oc, .slice ra (us.length + 1) rc] rfl 36 ?qbox 5 sizeScope rfl) rfl ?_
    case qbox => exact ((((R6.out.set 0 _).set 1 _).set 2 _).set 3 _).set 4 _
    exact ⟨_, rfl, (SQ6.out.home (b := w.heap.size) (.inl (by omega)) hgw (Nat.le_refl _) ((((((Only.refl _ _).set 0 _).set 1 _).set 2 _).set 3 _).set 4 _)).told (by omega) (by omega) (SQ6.out.home (b := w.heap.size) (.inl (by omega)) hgw (Nat.le_refl _) ((((((Only.refl _ _).set 0 _).set 1 _).set 2 _).set 3 _).set 4 _)).on⟩
  have b2 : (z == 2) = false := beq_eq_false_iff_ne.2 h2
  by_cases h3 : z = 3
  · subst h3
    clear SR4 HOD HU2 HI2 HDR
    go_wp2_with fail
    refine (cAnyTypes g (k + 2000 + 2) _ (by omega) SQ4.out.cur).mono ?_
    rintro e w5 ⟨a5, n5, c5, rfl, ht5⟩
    have ho5b : Only g w4 w5 := by obtain ⟨_, _, _, _, _, _, _, _, h⟩ := ht5; exact h
    have SQ5 := Lib.hid (SQ4.out.anyT (by omega) (by omega) hw4s ht5 ho5b)
    have X5 := Lib.hid (X4.out.only ho5b (by omega))
    have R5 := Lib.hid (R4.out.only ho5b (by omega))
    have y2 : _ = some (Value.slice ta l.length tc) := X5.out.cell 2
    have fy := X5.out.free 2
    have SQ6 := Lib.hid (SQ5.out.home (b := sb) (.inr rfl) (by omega) (by omega) ((Only.refl sb _).set 2 (.slice a5 n5 c5)))
    have R6 := Lib.hid (R5.out.only ((Only.refl sb w5).set 2 (.slice a5 n5 c5)) (by omega))
    have X6 := Lib.hid (show Box (w5.setCell ⟨sb, 2, none⟩ (.slice a5 n5 c5)) sb 36 #[.string nm, .slice ia ims.length ic, .slice a5 n5 c5, .slice oa os.length oc, .slice ua us.length uc] from X5.out.set 2 (.slice a5 n5 c5))
    clear ht5 ho5b SQ4 X4 R4
    have x0 : _ = some (Value.string nm) := X6.out.cell 0
    have x1 : _ = some (Value.slice ia ims.length ic) := X6.out.cell 1
    have x2 : _ = some (Value.slice a5 n5 c5) := X6.out.cell 2
    have x3 : _ = some (Value.slice oa os.length oc) := X6.out.cell 3
    have x4 : _ = some (Value.slice ua us.length uc) := X6.out.cell 4
    have fr := R6.out.free
    have zz0 : _ = some (Value.string ⟨#[]⟩) := R6.out.cell 0
    have zz1 : _ = some (Value.slice none 0 0) := R6.out.cell 1
    have zz2 : _ = some (Value.slice none 0 0) := R6.out.cell 2
    have zz3 : _ = some (Value.slice none 0 0) := R6.out.cell 3
    have zz4 : _ = some (Value.slice none 0 0) := R6.out.cell 4
    go_wp2_with fail
    refine bodyPost_ret (results_one rfl Try.underlying36 rfl _ _ w.heap.size #[.string nm, .slice ia ims.length ic, .slice a5 n5 c5, .slice oa os.length oc, .slice ua us.length uc] rfl 36 ?qbox 5 sizeScope rfl) rfl ?_
    case qbox => exact ((((R6.out.set 0 _).set 1 _).set 2 _).set 3 _).set 4 _
    exact ⟨_, rfl, (SQ6.out.home (b := w.heap.size) (.inl (by omega)) hgw (Nat.le_refl _) ((((((Only.refl _ _).set 0 _).set 1 _).set 2 _).set 3 _).set 4 _)).told (by omega) (by omega) (SQ6.out.home (b := w.heap.size) (.inl (by omega)) hgw (Nat.le_refl _) ((((((Only.refl _ _).set 0 _).set 1 _).set 2 _).set 3 _).set 4 _)).on⟩
  have b3 : (z == 3) = false := beq_eq_false_iff_ne.2 h3
  clear SR4 HOD HU2 HI2 HDR
  have x0 : _ = some (Value.string nm) := X4.out.cell 0
  have x1 : _ = some (Value.slice ia ims.length ic) := X4.out.cell 1
  have x2 : _ = some (Value.slice ta l.length tc) := X4.out.cell 2
  have x3 : _ = some (Value.slice oa os.length oc) := X4.out.cell 3
  have x4 : _ = some (Value.slice ua us.length uc) := X4.out.cell 4
  have fr := R4.out.free
  have zz0 : _ = some (Value.string ⟨#[]⟩) := R4.out.cell 0
  have zz1 : _ = some (Value.slice none 0 0) := R4.out.cell 1
  have zz2 : _ = some (Value.slice none 0 0) := R4.out.cell 2
  have zz3 : _ = some (Value.slice none 0 0) := R4.out.cell 3
  have zz4 : _ = some (Value.slice none 0 0) := R4.out.cell 4
  go_wp2_with fail
  refine bodyPost_ret (results_one rfl Try.underlying36 rfl _ _ w.heap.size #[.string nm, .slice ia ims.length ic, .slice ta l.length tc, .slice oa os.length oc, .slice ua us.length uc] rfl 36 ?qbox 5 sizeScope rfl) rfl ?_
  case qbox => exact ((((R4.out.set 0 _).set 1 _).set 2 _).set 3 _).set 4 _
  exact ⟨_, rfl, (SQ4.out.home (b := w.heap.size) (.inl (by omega)) hgw (Nat.le_refl _) ((((((Only.refl _ _).set 0 _).set 1 _).set 2 _).set 3 _).set 4 _)).told (by omega) (by omega) (SQ4.out.home (b := w.heap.size) (.inl (by omega)) hgw (Nat.le_refl _) ((((((Only.refl _ _).set 0 _).set 1 _).set 2 _).set 3 _).set 4 _)).on⟩
end Go.Proofs.Ytnhdijkaakjdgaa

namespace Go.Proofs.Ytnhdijkaakjdgaa
open Go.ChangeShapes Go.WideShapes Go.ChangeAt Go.RowKit
set_option maxRecDepth 100000

theorem cPickM (g k : Nat) (n : Int) (w : World) (hk : k ≤ 999990) (hn : 0 ≤ n) (hn2 : n ≤ 1048576) (hc : Cur w g k) :
    Calls Try.prog 19 #[.pointer (some ⟨g, 0, none⟩), .int .i64 n] w (Drawn (fun r => 0 ≤ r ∧ r ≤ n) g (k + 2) w) := by
  by_cases h1 : n = 0
  · have Hc := Lib.hid hc
    subst h1
    clear hc
    go_enter Try.func19, Try.ntmps19
    go_wp2_with fail
    go_ret
    exact ⟨0, ⟨by omega, by omega⟩, rfl, Hc.out.more (by omega), Only.refl _ _⟩
  · exact (cPick g k n w hk (by omega) hn2 hc).mono fun e w' h => h.mono (fun r hr => ⟨hr.1, by omega⟩) (Nat.le_refl _)
theorem results_ctt {P : Program} {fn : Func} {p u v : Tmp} {ty : TypeId} {d : TypeDesc} (h : fn.results = #[.cell p ty, .tmp u, .tmp v]) (hu : P.underlying ty = some d) (hd : (match d with | .struct _ | .array _ _ => true | _ => false) = true)
    (tmps : Array Value) (w : World) (g : Nat) (cs : Array Value) (hp : tmps.getD p undef = .pointer (some ⟨g, 0, none⟩)) (t : TypeId) (hb : Box w g t cs) (n : Nat) (hi : (P.info? ty).map (·.size) = some n) (hn : cs.size = n) :
    (results fn tmps).run P w = .ok (.tuple #[.agg cs, tmps.getD u undef, tmps.getD v undef]) w := by
  have hl : (loadVar ty ⟨g, 0, none⟩).run P w = .ok (.agg cs) w := run_loadVar_row w g _ _ cs (0, 0) d hb hu hd (by rw [hi, hn])
  have hp2 : tmps[p]?.getD undef = .pointer (some ⟨g, 0, none⟩) := by simpa using hp
  simp only [results, h]
  simp [Result.andThen, hp2, asAddr, hl]
/-- Rows of numbers, told as such. -/
theorem nums_of_rows {Q : Nat → Prop} {w : World} {a : Option Addr} {l : List Int} (h : Rows intS Q w a l) : Nums w a l := fun i hi => by
  obtain ⟨b, o, cs, e, _, h2, h3, h4⟩ := h i hi
  obtain rfl : cs = [.int .i64 l[i]] := h4
  have := h3 0 (by decide)
  have hn : intS.n = 1 := rfl
  rw [hn] at this
  simp at this
  exact ⟨b, o, e, h2, this⟩
theorem rows_set0 {Q : Nat → Prop} {w : World} {b o : Nat} {l : List Int} (h : Rows intS Q w (some ⟨b, o, none⟩) l) (x : Int) : Rows intS Q (w.setCell ⟨b, o, none⟩ (.int .i64 x)) (some ⟨b, o, none⟩) (l.set 0 x) := fun i hi => by
  rw [List.length_set] at hi
  have hn : intS.n = 1 := rfl
  obtain ⟨b', o', cs, e, h1, h2, h3, h4⟩ := h i hi
  cases e
  have hs : (w.setCell ⟨b, o, none⟩ (.int .i64 x)).heap.size = w.heap.size := by simp [World.setCell]
  by_cases h0 : i = 0
  · subst h0
    refine ⟨b, o, [.int .i64 x], rfl, h1, by rw [hs]; exact h2, fun j hj => ?_, ?_⟩
    · obtain rfl : j = 0 := by omega
      have h5 := h3 0 (by decide)
      obtain rfl : cs = [.int .i64 l[0]] := h4
      simp at h5
      simp
      rw [World.cell?_setCell_same _ _ _ (by rw [h5])]
    · show [Value.int .i64 x] = [.int .i64 (l.set 0 x)[0]]
      rw [List.getElem_set_self]
  · refine ⟨b, o, cs, rfl, h1, by rw [hs]; exact h2, fun j hj => ?_, ?_⟩
    · rw [World.cell?_setCell_other _ _ _ _ (by intro e; injection e; rw [hn] at *; omega)]
      exact h3 j hj
    · show cs = [.int .i64 (l.set 0 x)[i]]
      rw [List.getElem_set_ne (by omega)]
      exact h4
theorem only_cell {g b j : Nat} {w w' : World} {v : Value} (ho : Only g w w') (hb : b < w.heap.size) (hn : b ≠ g) (h : w.cell? ⟨b, j, none⟩ = some v) : w'.cell? ⟨b, j, none⟩ = some v :=
  (World.cell?_of_block (a := ⟨b, j, none⟩) (ho.block b hb (fun e => hn (by injection e)))).trans h
theorem pick_of {n : Nat} {z : Int} (hn : n ≤ 9) (h0 : 0 ≤ z) (h1 : z < 20) : 0 ≤ IntKind.i64.wrap ((n : Int) + IntKind.i64.wrap (Int.tdiv z 19)) ∧ IntKind.i64.wrap ((n : Int) + IntKind.i64.wrap (Int.tdiv z 19)) ≤ 1048576 := by
  have hq : Int.tdiv z 19 = 0 ∨ Int.tdiv z 19 = 1 := by rw [Int.tdiv_eq_ediv_of_nonneg h0]; omega
  rcases hq with h | h <;> rw [h] <;> simp only [IntKind.wrap_i64] <;> omega
theorem belowOnly {B r : Nat} {w w1 w2 : World} (h : Below B w w1) (hB : B ≤ w.heap.size) (ho : Only r w1 w2) (hr : B ≤ r) : Below B w w2 :=
  ⟨ho.os.trans h.os, ho.tape.trans h.tape, ho.output.trans h.output, Nat.le_trans h.size ho.size, fun q hq => by
    have hs := h.size
    exact (ho.block q (by omega) (fun e => by injection e with e; omega)).trans (h.block q hq)⟩
/-- What a draw keeps once its scope is drawn. -/
structure Mc (g r0 lo sb : Nat) (w0 : World) (s : ScopeD) (a1 a2 a3 a4 : Option Addr) (c1 c2 c3 c4 : Nat) (w : World) (k : Nat) : Prop where
  cur : Cur w g k
  on : Only g w0 w
  box : Box w sb 36 (scopeC s a1 a2 a3 a4 c1 c2 c3 c4)
  home : Box w r0 36 #[.string ⟨#[]⟩, .slice none 0 0, .slice none 0 0, .slice none 0 0, .slice none 0 0]
  rows : ScopeR (fun q => lo ≤ q ∧ q < sb) w a1 a2 a3 a4 s
  hg : g < lo
  hr : r0 < g
  hlo : lo ≤ sb
  h0 : w0.heap.size ≤ lo
section
variable {g r0 lo sb k k' : Nat} {w0 w w' : World} {s : ScopeD} {a1 a2 a3 a4 : Option Addr} {c1 c2 c3 c4 : Nat}
theorem Mc.turn (h : Mc g r0 lo sb w0 s a1 a2 a3 a4 c1 c2 c3 c4 w k) (hc : Cur w' g k') (ho : Only g w w') : Mc g r0 lo sb w0 s a1 a2 a3 a4 c1 c2 c3 c4 w' k' where
  cur := hc
  on := h.on.trans ho
  box := h.box.only ho (by have := h.hg; have := h.hlo; omega)
  home := h.home.only ho (by have := h.hr; omega)
  rows := h.rows.keep (fun b hb hl => ho.block b hl (fun e => by have := h.hg; injection e with e; omega)) ho.size
  hg := h.hg
  hr := h.hr
  hlo := h.hlo
  h0 := h.h0
theorem Mc.below (h : Mc g r0 lo sb w0 s a1 a2 a3 a4 c1 c2 c3 c4 w k) (hb : Below w.heap.size w w') : Mc g r0 lo sb w0 s a1 a2 a3 a4 c1 c2 c3 c4 w' k := h.turn (h.cur.below hb h.cur.lt) (Only.ofBelow hb)
theorem Mc.far {b : Nat} (h : Mc g r0 lo sb w0 s a1 a2 a3 a4 c1 c2 c3 c4 w k) (ho : Only b w w') (hb : sb < b) : Mc g r0 lo sb w0 s a1 a2 a3 a4 c1 c2 c3 c4 w' k where
  cur := h.cur.far ho (by have := h.hg; have := h.hlo; omega)
  on := h.on.far ho (by have := h.h0; have := h.hlo; omega)
  box := h.box.only ho (by omega)
  home := h.home.only ho (by have := h.hr; have := h.hg; have := h.hlo; omega)
  rows := h.rows.keep (fun q hq hl => ho.block q hl (fun e => by injection e with e; omega)) ho.size
  hg := h.hg
  hr := h.hr
  hlo := h.hlo
  h0 := h.h0
theorem Mc.alloc (h : Mc g r0 lo sb w0 s a1 a2 a3 a4 c1 c2 c3 c4 w k) (o : Obj) : Mc g r0 lo sb w0 s a1 a2 a3 a4 c1 c2 c3 c4 (w.alloc o) k := h.below ((Below.refl _ _).alloc (Nat.le_refl _) o)
theorem Mc.more (h : Mc g r0 lo sb w0 s a1 a2 a3 a4 c1 c2 c3 c4 w k) (hk : k ≤ k') : Mc g r0 lo sb w0 s a1 a2 a3 a4 c1 c2 c3 c4 w k' := ⟨h.cur.more hk, h.on, h.box, h.home, h.rows, h.hg, h.hr, h.hlo, h.h0⟩
theorem Mc.grown {row : Option Nat} (h : Mc g r0 lo sb w0 s a1 a2 a3 a4 c1 c2 c3 c4 w k) (hg : w.grownBy w' row) (hr : ∀ q, row = some q → sb < q) : Mc g r0 lo sb w0 s a1 a2 a3 a4 c1 c2 c3 c4 w' k where
  cur := h.cur.grown hg (fun r e => by have := hr r e; have := h.hg; have := h.hlo; omega)
  on := h.on.grownB hg (fun r e => by have := hr r e; have := h.h0; have := h.hlo; omega)
  box := (hg.block sb h.box.lt (fun e => by have := hr sb e.symm; omega)).trans h.box
  home := (hg.block r0 h.home.lt (fun e => by have := hr r0 e.symm; have := h.hr; have := h.hg; have := h.hlo; omega)).trans h.home
  rows := h.rows.keep (fun b hb hl => hg.block b hl (fun e => by have := hr b e.symm; omega)) hg.size
  hg := h.hg
  hr := h.hr
  hlo := h.hlo
  h0 := h.h0
end
/-- What the draw of a call tells. -/
def CallDrawn (w : World) (e : Ending) (w' : World) : Prop := ∃ s a1 a2 a3 a4 c1 c2 c3 c4 n ya yc ys, e = .returned (.tuple #[.agg (scopeC s a1 a2 a3 a4 c1 c2 c3 c4), .int .i64 n, .slice ya (List.length ys) yc]) ∧ ScShort s ∧ List.length ys ≤ 2 ∧ Nums w' ya ys ∧ ScopeM w' a1 a2 a3 a4 c1 c2 c3 c4 s ∧ Below w.heap.size w w'
theorem ScShort.m {s : ScopeD} (h : ScShort s) {w : World} {a1 a2 a3 a4 : Option Addr} {c1 c2 c3 c4 : Nat} (h1 : s.fImports.length ≤ c1 ∧ c1 ≤ maxLen) (h2 : s.fTypes.length ≤ c2 ∧ c2 ≤ maxLen) (h3 : s.fObjects.length ≤ c3 ∧ c3 ≤ maxLen) (h4 : s.fUses.length ≤ c4 ∧ c4 ≤ maxLen) (hr : ScopeR Any w a1 a2 a3 a4 s) : ScopeM w a1 a2 a3 a4 c1 c2 c3 c4 s := by
  have m : (20 : Nat) ≤ maxLen := by unfold maxLen; omega
  have b1 := h.li
  have b2 := h.lt
  have b3 := h.lo
  have b4 := h.lu
  exact ⟨Nat.le_trans h.nm m, by omega, by omega, by omega, by omega, h1, h2, h3, h4, fun x hx => Nat.le_trans (h.mi x hx) m, fun t ht => (h.mt t ht).md, fun o ho => by
    obtain ⟨d1, d2, d3⟩ := h.mo o ho
    exact ⟨Nat.le_trans d1 m, by omega, fun p hp => Nat.le_trans (d3 p hp) m⟩, fun u hu => ⟨Nat.le_trans (h.mu u hu).1 m, Nat.le_trans (h.mu u hu).2 m⟩, hr⟩

set_option maxHeartbeats 32000000 in
theorem dMayCall (a : Option Addr) (len cap : Nat) (w : World) (h : Code w a len) : Calls Try.prog 10 #[.slice a len cap] w (CallDrawn w) := by
  have H := Lib.hid (h.below ((Below.refl w.heap.size w).alloc (Nat.le_refl _) (.cells #[.string ⟨#[]⟩, .slice none 0 0, .slice none 0 0, .slice none 0 0, .slice none 0 0] 36)))
  have R1 := Lib.hid (Box.new w 36 #[.string ⟨#[]⟩, .slice none 0 0, .slice none 0 0, .slice none 0 0, .slice none 0 0])
  clear h
  go_enter Try.func10, Try.ntmps10
  go_wp2_with fail
  have CC := Lib.hid (H.out.cur (cap := cap))
  have R2 := Lib.hid (R1.out.alloc (.cells #[.slice a len cap, .int .i64 0, .int .u64 0] 55))
  have BB := Lib.hid (((Below.refl w.heap.size w).alloc (Nat.le_refl _) (.cells #[.string ⟨#[]⟩, .slice none 0 0, .slice none 0 0, .slice none 0 0, .slice none 0 0] 36)).alloc (by simp) (.cells #[.slice a len cap, .int .i64 0, .int .u64 0] 55))
  have hs1 : (w.alloc (.cells #[.string ⟨#[]⟩, .slice none 0 0, .slice none 0 0, .slice none 0 0, .slice none 0 0] 36)).heap.size = w.heap.size + 1 := by simp
  have hs2 : ((w.alloc (.cells #[.string ⟨#[]⟩, .slice none 0 0, .slice none 0 0, .slice none 0 0, .slice none 0 0] 36)).alloc (.cells #[.slice a len cap, .int .i64 0, .int .u64 0] 55)).heap.size = w.heap.size + 2 := by simp
  rw [hs1] at CC
  clear hs1 H R1
  generalize (w.alloc (.cells #[.string ⟨#[]⟩, .slice none 0 0, .slice none 0 0, .slice none 0 0, .slice none 0 0] 36)).alloc (.cells #[.slice a len cap, .int .i64 0, .int .u64 0] 55) = w2 at *
  refine (cAnyScope (w.heap.size + 1) 0 _ (by decide) CC.out).mono ?_
  rintro e w3 ⟨v, rfl, s, a1, a2, a3, a4, c1, c2, c3, c4, rfl, hsh, k1, k2, k3, k4, hr3, hc3, ho3⟩
  have M3 := Lib.hid (show Mc (w.heap.size + 1) w.heap.size w2.heap.size w3.heap.size w2 s a1 a2 a3 a4 c1 c2 c3 c4 (w3.alloc (.cells (scopeC s a1 a2 a3 a4 c1 c2 c3 c4) 36)) (0 + 4000) from
    ⟨hc3.below ((Below.refl _ _).alloc (Nat.le_refl _) _) hc3.lt, ho3.alloc _, Box.new _ _ _, (R2.out.only ho3 (by omega)).alloc _, (hr3.mono (fun q hq hl => ⟨hq, hl⟩)).keep (fun b _ hl => Below.heap_alloc _ _ b hl) (by simp), by omega, by omega, ho3.size, Nat.le_refl _⟩)
  have hw3s : w3.heap.size < (w3.alloc (.cells (scopeC s a1 a2 a3 a4 c1 c2 c3 c4) 36)).heap.size := by simp
  have HSH := Lib.hid hsh
  have HCP := Lib.hid (And.intro k1 (And.intro k2 (And.intro k3 k4)))
  have hlo5 := hsh.lo
  have hlt9 := hsh.lt
  have hs2a : w.heap.size + 1 < w2.heap.size := by omega
  clear hs2 hr3 hc3 ho3 hsh k1 k2 k3 k4 R2 CC
  go_wp2_with fail
  obtain ⟨sb, hsb⟩ : ∃ n, n = w3.heap.size := ⟨_, rfl⟩
  rw [← hsb] at M3 hw3s ⊢
  generalize w3.alloc (.cells (scopeC s a1 a2 a3 a4 c1 c2 c3 c4) 36) = w4 at *
  clear hsb
  obtain ⟨g, hgg⟩ : ∃ n, n = w.heap.size + 1 := ⟨_, rfl⟩
  rw [← hgg] at M3 ⊢
  have hgw : w.heap.size < g := by omega
  have hgw2 : g < w2.heap.size := by omega
  clear hgg hs2a
  have x3 : _ = some (Value.slice a3 s.fObjects.length c3) := M3.out.box.cell 3
  go_wp2_with fail
  refine (sl1Most 1 (s.fObjects.length : Int) _).mono ?_
  rintro e w5 ⟨z, rfl, rfl, z0, z1, z2⟩
  go_wp2_with fail
  refine (cPick g _ z _ (by omega) (by omega) (by omega) M3.out.cur).mono ?_
  rintro e w6 ⟨n0, ⟨n00, n01⟩, rfl, hc6, ho6⟩
  have hw6s : sb < w6.heap.size := Nat.lt_of_lt_of_le hw3s ho6.size
  have M6 := Lib.hid (M3.out.turn hc6 ho6)
  clear hc6 ho6 M3 x3
  have x3 : _ = some (Value.slice a3 s.fObjects.length c3) := M6.out.box.cell 3
  go_wp2_with fail
  obtain ⟨n1, rfl⟩ := Int.eq_ofNat_of_zero_le n00
  go_loopw [27, 7] (fun i z wr => ∃ (q : Nat) (n : Nat), i = .int .i64 q ∧ z = .int .i64 (n : Int) ∧ q ≤ s.fObjects.length ∧ n ≤ 5 ∧ sb < wr.heap.size ∧ Mc g w.heap.size w2.heap.size sb w2 s a1 a2 a3 a4 c1 c2 c3 c4 wr (4002 + 2 * q)) (fun i _ _ => s.fObjects.length - (intOf i).toNat)
  case atStart => exact ⟨0, n1, rfl, rfl, by omega, by omega, hw6s, M6.out.more (by omega)⟩
  case round =>
    obtain ⟨wq, hwq⟩ : ∃ z, z = wr := ⟨_, rfl⟩
    subst hwq
    obtain ⟨q, n, rfl, rfl, hq, hn5, hws, hm⟩ := hrel
    have MQ := Lib.hid hm
    clear hm M6 x3 hw6s
    by_cases hlt : q < s.fObjects.length
    · obtain ⟨b, o, cs, rfl, hQ, hbl, hc, pa, pc, rfl, hpr, hpc⟩ := MQ.out.rows.objects q hlt
      have hn6 : objectS.n = 6 := rfl
      rw [hn6] at hc
      have d0 := hc 0 (by decide)
      have d1 := hc 1 (by decide)
      have d2 := hc 2 (by decide)
      have d3 := hc 3 (by decide)
      have d4 := hc 4 (by decide)
      have d5 := hc 5 (by decide)
      simp at d0 d1 d2 d3 d4 d5
      clear hc hpr hpc hQ
      have MA := Lib.hid (MQ.out.alloc (.cells #[.string s.fObjects[q].fName, .int .i64 s.fObjects[q].fKind, .int .i64 s.fObjects[q].fMark, .int .i64 s.fObjects[q].fType, .int .i64 s.fObjects[q].fValue, .slice pa s.fObjects[q].fParams.length pc] 43))
      by_cases hk4 : s.fObjects[q].fKind = 4
      · rw [hk4] at MA d1
        clear hk4
        go_wp2_with fail
        refine (cOne g (4002 + 2 * q) 6 _ (by omega) (by omega) (by omega) MA.out.cur).mono ?_
        rintro e wb ⟨bb, rfl, hcb, hob⟩
        have MB := Lib.hid (MA.out.turn hcb hob)
        have hwb : sb < wb.heap.size := Nat.lt_of_lt_of_le hws (Nat.le_trans (by simp) hob.size)
        clear hcb hob MA MQ d0 d1 d2 d3 d4 d5
        cases bb
        · go_wp2_with fail
          exact ⟨⟨q + 1, q, by congr 1, rfl, by omega, by omega, hwb, MB.out.more (by omega)⟩, by simp [intOf]; omega⟩
        · go_wp2_with fail
          exact ⟨⟨q + 1, n, by congr 1, rfl, by omega, by omega, hwb, MB.out.more (by omega)⟩, by simp [intOf]; omega⟩
      · have hkb : (s.fObjects[q].fKind == 4) = false := beq_eq_false_iff_ne.2 hk4
        have hwa : sb < (wq.alloc (.cells #[.string s.fObjects[q].fName, .int .i64 s.fObjects[q].fKind, .int .i64 s.fObjects[q].fMark, .int .i64 s.fObjects[q].fType, .int .i64 s.fObjects[q].fValue, .slice pa s.fObjects[q].fParams.length pc] 43)).heap.size := by simp; omega
        go_wp2_with fail
        exact ⟨⟨q + 1, n, by congr 1, rfl, by omega, by omega, hwa, MA.out.more (by omega)⟩, by simp [intOf]; omega⟩
    · obtain rfl : q = s.fObjects.length := by omega
      have x3 : _ = some (Value.slice a3 s.fObjects.length c3) := MQ.out.box.cell 3
      by_cases hn : n < s.fObjects.length
      · obtain ⟨b, o, cs, rfl, hQ, hbl, hc, pa, pc, rfl, hpr, hpc⟩ := MQ.out.rows.objects n hn
        have hn6 : objectS.n = 6 := rfl
        rw [hn6] at hc
        have d5 := hc 5 (by decide)
        simp at d5
        have hpl := (HSH.out.mo _ (List.getElem_mem hn)).2.1
        clear hc hpc hQ
        obtain ⟨ps, hps⟩ : ∃ z, z = s.fObjects[n].fParams := ⟨_, rfl⟩
        rw [← hps] at hpl hpr d5
        clear hps
        have HPR := Lib.hid hpr
        have hnb : decide ((n : Int) < (s.fObjects.length : Int)) = true := decide_eq_true (by omega)
        clear hpr
        go_wp2_with fail
        go_loopw [54, 10] (fun i av wr => ∃ (q : Nat) (ys : List Int), i = .int .i64 q ∧ ys.length = q ∧ q ≤ ps.length ∧ sb < wr.heap.size ∧ OwnG intS 3 (sb + 1) Nowhere wr av ys ∧ Rows paramS (fun q => w2.heap.size ≤ q ∧ q < sb) wr pa ps ∧ Mc g w.heap.size w2.heap.size sb w2 s a1 a2 (some ⟨b, o, none⟩) a4 c1 c2 c3 c4 wr (4002 + 2 * s.fObjects.length)) (fun i _ _ => ps.length - (intOf i).toNat)
        case atStart => exact ⟨0, [], rfl, rfl, by omega, hws, OwnG.nil, HPR.out, MQ.out⟩
        case round =>
          obtain ⟨wp, hwp⟩ : ∃ z, z = wr := ⟨_, rfl⟩
          subst hwp
          obtain ⟨q, ys, rfl, hyq, hqp, hws2, hown, hpr, hm⟩ := hrel
          have MP := Lib.hid hm
          have PR := Lib.hid hpr
          have OY := Lib.hid hown
          clear hm hpr hown MQ HPR d5 x3 hws
          by_cases hlt2 : q < ps.length
          · obtain ⟨pb, po, cs, rfl, hQ, hbl2, hc, hat⟩ := PR.out q hlt2
            obtain rfl : cs = [.string ps[q].fName, .bool ps[q].fByVar, .int .i64 ps[q].fType] := hat
            have hn3 : paramS.n = 3 := rfl
            rw [hn3] at hc
            have d0 := hc 0 (by decide)
            have d1 := hc 1 (by decide)
            have d2 := hc 2 (by decide)
            simp at d0 d1 d2
            clear hc hQ
            generalize hty : ps[q].fType = ty at *
            generalize ps[q].fName = pn at *
            generalize ps[q].fByVar = pv at *
            clear hty
            obtain ⟨i0, hi, hz0, hz1, hz2⟩ := info_parts infoInt
            have Hi := Lib.hid (And.intro hi (And.intro hz0 (And.intro hz1 hz2)))
            have hylt := OY.out.lt
            clear hi hz0 hz1 hz2
            go_wp2_with (at_builtin; refine wpList_pushG rfl _ _ _ rfl intS 3 i0 (.int .i64 0) 8 Try.underlying37 ?q1 ?q2 ?q3 ?q4 rfl (by decide) (by omega) (sb + 1) Nowhere _ _ ys rfl ?q5 ty [.int .i64 ty] _ _ rfl ?q6 ?q7 ?q8 ?q9 ?q10 ?_)
            case q1 => exact Hi.out.1
            case q2 => exact Hi.out.2.1
            case q3 => exact Hi.out.2.2.1
            case q4 => exact Hi.out.2.2.2
            case q5 => exact (OY.out.alloc _).alloc _
            case q6 =>
              intro j _
              refine Eq.trans ((Box.new' _ 3 #[.int .i64 ty] (by simp)).cell j) ?_
              simp
            case q7 => exact rfl
            case q8 =>
              intro y hy
              rw [List.mem_singleton.1 hy]
              rfl
            case q9 => omega
            case q10 => simp; omega
            intro v9 wn hown9 hg9 _
            have MN := Lib.hid (((MP.out.alloc (.cells #[.string pn, .bool pv, .int .i64 ty] 45)).alloc (.cells #[.int .i64 ty] 3)).grown hg9 (fun r hr => by have := (hylt r hr).1; omega))
            have PN := Lib.hid (((PR.out.below ((Below.refl _ _).alloc (Nat.le_refl _) (.cells #[.string pn, .bool pv, .int .i64 ty] 45))).below ((Below.refl _ _).alloc (Nat.le_refl _) (.cells #[.int .i64 ty] 3))).keep (fun r hr hl => hg9.block r hl (fun e => by have := (hylt r e.symm).1; omega)) hg9.size)
            have hwn : sb < wn.heap.size := Nat.lt_of_lt_of_le (by simp; omega) hg9.size
            have ON := Lib.hid hown9
            clear hown9 hg9 MP PR OY d0 d1 d2 hylt
            go_wp2_with fail
            exact ⟨⟨q + 1, _, by congr 1, by simp; omega, by omega, hwn, ON.out, PN.out, MN.out⟩, by simp [intOf]; omega⟩
          · subst hyq
            obtain ⟨ya, yc, rfl, _, _, hyr⟩ := OwnG.rows (Q := fun q => sb < q) OY.out (fun q hq _ => hq.elim) (fun q hq => by have := (OY.out.lt q hq).1; omega)
            have YR := Lib.hid hyr
            clear hyr PR
            by_cases hy0 : 0 < ys.length
            · have hyb : decide ((ys.length : Int) > 0) = true := decide_eq_true (by omega)
              have hgs : g < sb := Nat.lt_of_lt_of_le hgw2 MP.out.hlo
              have hylt := OY.out.lt
              go_wp2_with fail
              refine (cOne g (4002 + 2 * s.fObjects.length) 2 _ (by omega) (by omega) (by omega) MP.out.cur).mono ?_
              rintro e wb ⟨bb, rfl, hcb, hob⟩
              have MB := Lib.hid (MP.out.turn hcb hob)
              have OB := Lib.hid (OY.out.keep (fun r hr hl => hob.block r hl (fun e => by
                injection e with e
                rcases hr with hr | hr
                · exact hr.elim
                · have := (hylt r hr).1; omega)) hob.size)
              have YB := Lib.hid (Rows.keep YR.out (fun r hr hl => hob.block r hl (fun e => by injection e with e; omega)) hob.size)
              clear hcb hob MP OY YR
              cases bb
              · skip
                have x0 : _ = some (Value.string s.fName) := MB.out.box.cell 0
                have x1 : _ = some (Value.slice a1 s.fImports.length c1) := MB.out.box.cell 1
                have x2 : _ = some (Value.slice a2 s.fTypes.length c2) := MB.out.box.cell 2
                have x3 : _ = some (Value.slice (some ⟨b, o, none⟩) s.fObjects.length c3) := MB.out.box.cell 3
                have x4 : _ = some (Value.slice a4 s.fUses.length c4) := MB.out.box.cell 4
                have fr := MB.out.home.free
                have zz0 : _ = some (Value.string ⟨#[]⟩) := MB.out.home.cell 0
                have zz1 : _ = some (Value.slice none 0 0) := MB.out.home.cell 1
                have zz2 : _ = some (Value.slice none 0 0) := MB.out.home.cell 2
                have zz3 : _ = some (Value.slice none 0 0) := MB.out.home.cell 3
                have zz4 : _ = some (Value.slice none 0 0) := MB.out.home.cell 4
                go_wp2_with fail
                refine bodyPost_ret (results_ctt rfl Try.underlying36 rfl _ _ w.heap.size #[.string s.fName, .slice a1 s.fImports.length c1, .slice a2 s.fTypes.length c2, .slice (some ⟨b, o, none⟩) s.fObjects.length c3, .slice a4 s.fUses.length c4] rfl 36 ?qbox 5 sizeScope rfl) rfl ?_
                case qbox => exact ((((MB.out.home.set 0 _).set 1 _).set 2 _).set 3 _).set 4 _
                have hsb := MB.out.hlo
                have hof : ∀ v0 v1 v2 v3 v4, Only w.heap.size wb (((((wb.setCell ⟨w.heap.size, 0, none⟩ v0).setCell ⟨w.heap.size, 1, none⟩ v1).setCell ⟨w.heap.size, 2, none⟩ v2).setCell ⟨w.heap.size, 3, none⟩ v3).setCell ⟨w.heap.size, 4, none⟩ v4) := fun v0 v1 v2 v3 v4 => (((((Only.refl _ _).set 0 _).set 1 _).set 2 _).set 3 _).set 4 _
                exact ⟨s, a1, a2, (some ⟨b, o, none⟩), a4, c1, c2, c3, c4, _, ya, yc, ys, rfl, HSH.out, by omega, nums_of_rows (Rows.keep YB.out (fun q hq hl => (hof _ _ _ _ _).block q hl (fun e => by injection e with e; omega)) (hof _ _ _ _ _).size), HSH.out.m HCP.out.1 HCP.out.2.1 HCP.out.2.2.1 HCP.out.2.2.2 (ScopeR.any (MB.out.rows.keep (fun q hq hl => (hof _ _ _ _ _).block q hl (fun e => by injection e with e; omega)) (hof _ _ _ _ _).size)), belowOnly (belowOnly BB.out (Nat.le_refl _) MB.out.on (by omega)) (Nat.le_refl _) (hof _ _ _ _ _) (Nat.le_refl _)⟩
              · obtain ⟨yb, yo, hya⟩ : ∃ b o, ya = some ⟨b, o, none⟩ := by
                  obtain ⟨b, o, _, e, _⟩ := YB.out 0 hy0
                  exact ⟨b, o, e⟩
                subst hya
                obtain rfl : yo = 0 := by
                  rcases OB.out with ⟨h, _⟩ | ⟨b', cap, cur, hv, _⟩
                  · cases h
                  · injection hv with hv
                    injection hv with hv
                    injection hv
                have hyb1 : sb < yb := by have := (hylt yb (ownBlock_slice _ _ _)).1; omega
                obtain ⟨cu2, bx2, _⟩ := OwnG.boxOf OB.out
                have hybl := bx2.lt
                have hybg : yb ≠ g := by omega
                have e0b : wb.cell? ⟨yb, 0, none⟩ = some (.int .i64 ys[0]) := by
                  obtain ⟨_, _, cs2, e2, _, _, hc2, rfl⟩ := YB.out 0 hy0
                  cases e2
                  have h9 := hc2 0 (by decide)
                  simp at h9
                  exact h9
                have MD := Lib.hid (MB.out.below (Below.refl _ _).drew)
                have y2 : _ = some (Value.slice a2 s.fTypes.length c2) := MB.out.box.cell 2
                go_wp2_with fail
                go_region_held3 (fun w' => w'.cell? ⟨sb, 2, none⟩ = some (.slice a2 s.fTypes.length c2))
                  (first | assumption | exact y2 | exact M2.out.box.cell 2 | exact M1.out.box.cell 2 | (rw [World.cell?_setCell_far _ _ _ _ (by show yb ≠ sb; omega)]; assumption))
                  (first
                  | (go_at_call 19; refine (cPickM g (4002 + 2 * s.fObjects.length + 2 + 2) _ _ (by omega) hb9.1 hb9.2 M1.out.cur).mono ?_; rintro e wd ⟨x, _, rfl, hcd, hod⟩; have M2 := Lib.hid (M1.out.turn hcd hod); have O2 := Lib.hid (O1.out.trans hod); have f2 := (bx2.only O2.out hybg).free 0; have e2 := only_cell O2.out hybl hybg e0b; clear hcd hod)
                  | (go_at_call 19; refine (cPick g (4002 + 2 * s.fObjects.length + 2) 20 _ (by omega) (by omega) (by omega) MD.out.cur).mono ?_; rintro e wc ⟨z9, ⟨z90, z91⟩, rfl, hcc, hoc⟩; have M1 := Lib.hid (MD.out.turn hcc hoc); have O1 := Lib.hid ((Only.ofBelow (g := g) (Below.refl wb.heap.size wb).drew).trans hoc); have hb9 := pick_of hlt9 z90 z91; clear hcc hoc))
                have hon := (Only.refl yb wd).set 0 (.int .i64 x)
                have M3 := Lib.hid (M2.out.far hon hyb1)
                have Y3 := Lib.hid (rows_set0 (Rows.keep YB.out (fun r hr hl => O2.out.block r hl (fun e => by injection e with e; omega)) O2.out.size) x)
                clear hon M1 M2 O1 O2 e2 f2 y2 MD OB YB bx2 e0b
                have x0 : _ = some (Value.string s.fName) := M3.out.box.cell 0
                have x1 : _ = some (Value.slice a1 s.fImports.length c1) := M3.out.box.cell 1
                have x2 : _ = some (Value.slice a2 s.fTypes.length c2) := M3.out.box.cell 2
                have x3 : _ = some (Value.slice (some ⟨b, o, none⟩) s.fObjects.length c3) := M3.out.box.cell 3
                have x4 : _ = some (Value.slice a4 s.fUses.length c4) := M3.out.box.cell 4
                have fr := M3.out.home.free
                have zz0 : _ = some (Value.string ⟨#[]⟩) := M3.out.home.cell 0
                have zz1 : _ = some (Value.slice none 0 0) := M3.out.home.cell 1
                have zz2 : _ = some (Value.slice none 0 0) := M3.out.home.cell 2
                have zz3 : _ = some (Value.slice none 0 0) := M3.out.home.cell 3
                have zz4 : _ = some (Value.slice none 0 0) := M3.out.home.cell 4
                go_wp2_with fail
                refine bodyPost_ret (results_ctt rfl Try.underlying36 rfl _ _ w.heap.size #[.string s.fName, .slice a1 s.fImports.length c1, .slice a2 s.fTypes.length c2, .slice (some ⟨b, o, none⟩) s.fObjects.length c3, .slice a4 s.fUses.length c4] rfl 36 ?qbox 5 sizeScope rfl) rfl ?_
                case qbox => exact ((((M3.out.home.set 0 _).set 1 _).set 2 _).set 3 _).set 4 _
                have hsb := M3.out.hlo
                have hof : ∀ v0 v1 v2 v3 v4, Only w.heap.size (wd.setCell ⟨yb, 0, none⟩ (.int .i64 x)) ((((((wd.setCell ⟨yb, 0, none⟩ (.int .i64 x)).setCell ⟨w.heap.size, 0, none⟩ v0).setCell ⟨w.heap.size, 1, none⟩ v1).setCell ⟨w.heap.size, 2, none⟩ v2).setCell ⟨w.heap.size, 3, none⟩ v3).setCell ⟨w.heap.size, 4, none⟩ v4) := fun v0 v1 v2 v3 v4 => (((((Only.refl _ _).set 0 _).set 1 _).set 2 _).set 3 _).set 4 _
                exact ⟨s, a1, a2, (some ⟨b, o, none⟩), a4, c1, c2, c3, c4, _, (some ⟨yb, 0, none⟩), yc, (ys.set 0 x), by rw [List.length_set]; rfl, HSH.out, by rw [List.length_set]; omega, nums_of_rows (Rows.keep Y3.out (fun q hq hl => (hof _ _ _ _ _).block q hl (fun e => by injection e with e; omega)) (hof _ _ _ _ _).size), HSH.out.m HCP.out.1 HCP.out.2.1 HCP.out.2.2.1 HCP.out.2.2.2 (ScopeR.any (M3.out.rows.keep (fun q hq hl => (hof _ _ _ _ _).block q hl (fun e => by injection e with e; omega)) (hof _ _ _ _ _).size)), belowOnly (belowOnly BB.out (Nat.le_refl _) M3.out.on (by omega)) (Nat.le_refl _) (hof _ _ _ _ _) (Nat.le_refl _)⟩
            · have hyb : decide ((ys.length : Int) > 0) = false := decide_eq_false (by omega)
              have x0 : _ = some (Value.string s.fName) := MP.out.box.cell 0
              have x1 : _ = some (Value.slice a1 s.fImports.length c1) := MP.out.box.cell 1
              have x2 : _ = some (Value.slice a2 s.fTypes.length c2) := MP.out.box.cell 2
              have x3 : _ = some (Value.slice (some ⟨b, o, none⟩) s.fObjects.length c3) := MP.out.box.cell 3
              have x4 : _ = some (Value.slice a4 s.fUses.length c4) := MP.out.box.cell 4
              have fr := MP.out.home.free
              have zz0 : _ = some (Value.string ⟨#[]⟩) := MP.out.home.cell 0
              have zz1 : _ = some (Value.slice none 0 0) := MP.out.home.cell 1
              have zz2 : _ = some (Value.slice none 0 0) := MP.out.home.cell 2
              have zz3 : _ = some (Value.slice none 0 0) := MP.out.home.cell 3
              have zz4 : _ = some (Value.slice none 0 0) := MP.out.home.cell 4
              go_wp2_with fail
              refine bodyPost_ret (results_ctt rfl Try.underlying36 rfl _ _ w.heap.size #[.string s.fName, .slice a1 s.fImports.length c1, .slice a2 s.fTypes.length c2, .slice (some ⟨b, o, none⟩) s.fObjects.length c3, .slice a4 s.fUses.length c4] rfl 36 ?qbox 5 sizeScope rfl) rfl ?_
              case qbox => exact ((((MP.out.home.set 0 _).set 1 _).set 2 _).set 3 _).set 4 _
              have hsb := MP.out.hlo
              have hof : ∀ v0 v1 v2 v3 v4, Only w.heap.size wp (((((wp.setCell ⟨w.heap.size, 0, none⟩ v0).setCell ⟨w.heap.size, 1, none⟩ v1).setCell ⟨w.heap.size, 2, none⟩ v2).setCell ⟨w.heap.size, 3, none⟩ v3).setCell ⟨w.heap.size, 4, none⟩ v4) := fun v0 v1 v2 v3 v4 => (((((Only.refl _ _).set 0 _).set 1 _).set 2 _).set 3 _).set 4 _
              exact ⟨s, a1, a2, (some ⟨b, o, none⟩), a4, c1, c2, c3, c4, _, ya, yc, ys, rfl, HSH.out, by omega, nums_of_rows (Rows.keep YR.out (fun q hq hl => (hof _ _ _ _ _).block q hl (fun e => by injection e with e; omega)) (hof _ _ _ _ _).size), HSH.out.m HCP.out.1 HCP.out.2.1 HCP.out.2.2.1 HCP.out.2.2.2 (ScopeR.any (MP.out.rows.keep (fun q hq hl => (hof _ _ _ _ _).block q hl (fun e => by injection e with e; omega)) (hof _ _ _ _ _).size)), belowOnly (belowOnly BB.out (Nat.le_refl _) MP.out.on (by omega)) (Nat.le_refl _) (hof _ _ _ _ _) (Nat.le_refl _)⟩
      · have hnb : decide ((n : Int) < (s.fObjects.length : Int)) = false := decide_eq_false (by omega)
        have x0 : _ = some (Value.string s.fName) := MQ.out.box.cell 0
        have x1 : _ = some (Value.slice a1 s.fImports.length c1) := MQ.out.box.cell 1
        have x2 : _ = some (Value.slice a2 s.fTypes.length c2) := MQ.out.box.cell 2
        have x3 : _ = some (Value.slice a3 s.fObjects.length c3) := MQ.out.box.cell 3
        have x4 : _ = some (Value.slice a4 s.fUses.length c4) := MQ.out.box.cell 4
        have fr := MQ.out.home.free
        have zz0 : _ = some (Value.string ⟨#[]⟩) := MQ.out.home.cell 0
        have zz1 : _ = some (Value.slice none 0 0) := MQ.out.home.cell 1
        have zz2 : _ = some (Value.slice none 0 0) := MQ.out.home.cell 2
        have zz3 : _ = some (Value.slice none 0 0) := MQ.out.home.cell 3
        have zz4 : _ = some (Value.slice none 0 0) := MQ.out.home.cell 4
        go_wp2_with fail
        refine bodyPost_ret (results_ctt rfl Try.underlying36 rfl _ _ w.heap.size #[.string s.fName, .slice a1 s.fImports.length c1, .slice a2 s.fTypes.length c2, .slice a3 s.fObjects.length c3, .slice a4 s.fUses.length c4] rfl 36 ?qbox 5 sizeScope rfl) rfl ?_
        case qbox => exact ((((MQ.out.home.set 0 _).set 1 _).set 2 _).set 3 _).set 4 _
        have hsb := MQ.out.hlo
        have hof : ∀ v0 v1 v2 v3 v4, Only w.heap.size wq (((((wq.setCell ⟨w.heap.size, 0, none⟩ v0).setCell ⟨w.heap.size, 1, none⟩ v1).setCell ⟨w.heap.size, 2, none⟩ v2).setCell ⟨w.heap.size, 3, none⟩ v3).setCell ⟨w.heap.size, 4, none⟩ v4) := fun v0 v1 v2 v3 v4 => (((((Only.refl _ _).set 0 _).set 1 _).set 2 _).set 3 _).set 4 _
        exact ⟨s, a1, a2, a3, a4, c1, c2, c3, c4, _, none, 0, [], rfl, HSH.out, by decide, nums_of_rows (Rows.keep (Rows.nil (Q := fun q => sb < q)) (fun q hq hl => (hof _ _ _ _ _).block q hl (fun e => by injection e with e; omega)) (hof _ _ _ _ _).size), HSH.out.m HCP.out.1 HCP.out.2.1 HCP.out.2.2.1 HCP.out.2.2.2 (ScopeR.any (MQ.out.rows.keep (fun q hq hl => (hof _ _ _ _ _).block q hl (fun e => by injection e with e; omega)) (hof _ _ _ _ _).size)), belowOnly (belowOnly BB.out (Nat.le_refl _) MQ.out.on (by omega)) (Nat.le_refl _) (hof _ _ _ _ _) (Nat.le_refl _)⟩
end Go.Proofs.Ytnhdijkaakjdgaa

namespace Go.Proofs.Ytnhdijkaakjdgaa
open Go.ChangeShapes Go.WideShapes Go.ChangeAt Go.RowKit
set_option maxRecDepth 100000

set_option maxHeartbeats 4000000 in
theorem dMayPut (a : Option Addr) (len cap : Nat) (w : World) (h : Code w a len) : Calls Try.prog 7 #[.slice a len cap] w fun e w' => ∃ a n c x y, e = .returned (.tuple #[.slice a n c, .int .i64 x, .int .i64 y]) ∧ 0 ≤ x ∧ x ≤ 9 ∧ -1 ≤ y ∧ y ≤ 9 ∧ TDrawn w a n c w' := by
  have H := Lib.hid h
  clear h
  go_enter Try.func7, Try.ntmps7
  go_wp2_with fail
  refine (cAnyTypes _ 0 _ (by decide) H.out.cur).mono ?_
  rintro e w1 ⟨a1, n, c, rfl, hat⟩
  have hn9 : n ≤ 9 := by obtain ⟨l, _, _, _, h4, _⟩ := hat; exact h4
  have A1 := Lib.hid hat
  have C1 := Lib.hid (show Cur w1 w.heap.size (0 + 1100) by obtain ⟨l, _, _, _, _, _, _, h7, _⟩ := hat; exact h7)
  clear hat
  go_wp2_with fail
  refine (cPick w.heap.size _ ((n : Int) + 1) _ (by omega) (by omega) (by omega) C1.out).mono ?_
  rintro e w2 ⟨x, ⟨x0, x1⟩, rfl, hc2, ho2⟩
  have A2 := Lib.hid (A1.out.pick (by simp) hc2 ho2)
  have C2 := Lib.hid hc2
  clear hc2 ho2 A1 C1
  go_wp2_with fail
  refine (cPick w.heap.size _ ((n : Int) + 1) _ (by omega) (by omega) (by omega) C2.out).mono ?_
  rintro e w3 ⟨y, ⟨y0, y1⟩, rfl, hc3, ho3⟩
  have A3 := Lib.hid (A2.out.pick (by simp) hc3 ho3)
  have C3 := Lib.hid hc3
  clear hc3 ho3 A2 C2
  go_wp2_with fail
  refine (cPick w.heap.size _ 20 _ (by omega) (by omega) (by omega) C3.out).mono ?_
  rintro e w4 ⟨z, ⟨z0, z1⟩, rfl, hc4, ho4⟩
  have T4 := Lib.hid ((A3.out.pick (by simp) hc4 ho4).drawn)
  clear hc4 ho4 A3 C3
  have hq : Int.tdiv z 19 = 0 ∨ Int.tdiv z 19 = 1 := by
    rw [Int.tdiv_eq_ediv_of_nonneg z0]; omega
  go_wp2_with fail
  go_ret3
  exact ⟨a1, n, c, x, _, rfl, x0, by omega, by omega, by omega, T4.out⟩
end Go.Proofs.Ytnhdijkaakjdgaa
