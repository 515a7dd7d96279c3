
/-
  What is proved: What is said: what was told of types that were met, step by step; the state of the program's number while it tells one type; the contract of the program's number; the contract of the program's telling of an object. No condition beside what each theorem states.
-/
import Derived.Test.YtaccifjkeblhpaaGreatTellF
import Derived.Test.YtaccifjkeblhpaaGreatFldR
import Derived.Test.YtaccifjkeblhpaaGreatExpM
import Derived.Deep.RegionHeld3
import Derived.Test.YtaccifjkeblhpaaGreatExp
namespace Go.Proofs.YtaccifjkeblhpaaGreat
open Go.ChangeShapes Go.WideShapes Go.ChangeAt Go.RowKit
set_option maxRecDepth 100000

/-- What was told since the order was o1. -/
structure Told (l : List TypeD) (o1 o : List Int) (L1 L : List TypeD) : Prop where
  len : L.length = o.length
  met : Met l o
  goes : Goes o1 o
  closes : Closes l o1 o
  low : ∀ k, k < o1.length → L[k]? = L1[k]?
  high : ∀ k, o1.length ≤ k → k < o.length → L[k]? = some (transT o (typeZat l (o.getD k 0)))
theorem Told.start {l : List TypeD} {o : List Int} {L : List TypeD} (h : L.length = o.length) (hm : Met l o) : Told l o o L L :=
  ⟨h, hm, Goes.refl o, Closes.refl l o, fun _ _ => rfl, fun k h1 h2 => absurd h2 (by omega)⟩
theorem Goes.getD {o o' : List Int} (h : Goes o o') {k : Nat} (hk : k < o.length) : o'.getD k 0 = o.getD k 0 := by
  obtain ⟨e, rfl⟩ := h
  simp [List.getD, List.getElem?_append_left hk]
theorem Told.fresh {l : List TypeD} {o1 o : List Int} {L1 L : List TypeD} (h : Told l o1 o L1 L) {k : Nat} (h1 : o1.length ≤ k) (h2 : k < o.length) : ∃ j : Nat, j < l.length ∧ o.getD k 0 = (j : Int) ∧ (j : Int) ∈ o ∧ (j : Int) ∉ o1 := by
  have e : o.getD k 0 = o[k] := by simp [List.getD, h2]
  have hm := List.getElem_mem h2
  obtain ⟨h0, hl⟩ := h.met.here _ hm
  obtain ⟨j, hj⟩ := Int.eq_ofNat_of_zero_le h0
  refine ⟨j, by omega, by rw [e, hj], hj ▸ hm, fun hin => ?_⟩
  obtain ⟨e', rfl⟩ := h.goes
  have hn := h.met.once
  rw [List.nodup_append] at hn
  rw [List.getElem_append_right h1] at hj
  exact hn.2.2 _ hin _ (List.getElem_mem (by rw [List.length_append] at h2; omega)) hj.symm
theorem Told.next {l : List TypeD} {o1 o : List Int} {L1 L L' : List TypeD} (h : Told l o1 o L1 L) (hl : Leads l) {n : Int} (hn : TypeOr l n) (hlen : L'.length = (visitZ l o n).length)
    (hk : ∀ k, (k < L.length → L'[k]? = L[k]?) ∧ (L.length ≤ k → k < L'.length → L'[k]? = some (transT (visitZ l o n) (typeZat l ((visitZ l o n).getD k 0))))) : Told l o1 (visitZ l o n) L1 L' := by
  obtain ⟨hm, hg⟩ := visit_goes n h.met
  have hgl := h.goes.len
  refine ⟨hlen, hm, h.goes.trans hg, h.closes.trans (visit_closes hl _ _ _ h.met (Nat.lt_succ_self _) hn) hg, fun k hk1 => ?_, fun k h1 h2 => ?_⟩
  · rw [(hk k).1 (by rw [h.len]; omega)]
    exact h.low k hk1
  · by_cases hko : k < o.length
    · rw [(hk k).1 (by rw [h.len]; exact hko), h.high k h1 hko, hg.getD hko]
      obtain ⟨j, hj, he, hj1, hj2⟩ := h.fresh h1 hko
      rw [he, typeZat_in hj, transT_goes hg (h.closes j hj hj1 hj2)]
    · exact (hk k).2 (by rw [h.len]; omega) (by omega)
/-- The order behind the first i of some fields. -/
def ordF (l : List TypeD) (o : List Int) (fs : List FieldD) (i : Nat) : List Int := ((fs.take i).map FieldD.fType).foldl (visitZ l) o
theorem ordF_zero {l : List TypeD} {o : List Int} {fs : List FieldD} : ordF l o fs 0 = o := rfl
theorem ordF_next {l : List TypeD} {o : List Int} {fs : List FieldD} {i : Nat} (h : i < fs.length) : ordF l o fs (i + 1) = visitZ l (ordF l o fs i) fs[i].fType := by
  unfold ordF
  rw [List.take_succ_eq_append_getElem h, List.map_append, List.foldl_append]
  rfl
theorem ordF_all {l : List TypeD} {o : List Int} {fs : List FieldD} : ordF l o fs fs.length = (fs.map FieldD.fType).foldl (visitZ l) o := by unfold ordF; rw [List.take_length]
/-- The first i told, the others as they were. -/
def halfF (l : List TypeD) (o : List Int) (fs : List FieldD) (i : Nat) : List FieldD := (fs.take i).map (transF (ordF l o fs i)) ++ fs.drop i
theorem halfF_zero {l : List TypeD} {o : List Int} {fs : List FieldD} : halfF l o fs 0 = fs := by simp [halfF]
theorem halfF_all {l : List TypeD} {o : List Int} {fs : List FieldD} : halfF l o fs fs.length = fs.map (transF (ordF l o fs fs.length)) := by simp [halfF]
theorem halfF_len {l : List TypeD} {o : List Int} {fs : List FieldD} {i : Nat} (h : i ≤ fs.length) : (halfF l o fs i).length = fs.length := by simp [halfF]; omega
theorem halfF_at {l : List TypeD} {o : List Int} {fs : List FieldD} {i : Nat} (h : i < fs.length) : (halfF l o fs i)[i]? = some fs[i] := by
  unfold halfF
  rw [List.getElem?_append_right (by simp; omega)]
  simp [Nat.min_eq_left (Nat.le_of_lt h), h]
theorem ordF_has {l : List TypeD} {o : List Int} {fs : List FieldD} (hm : Met l o) (ht : ∀ f ∈ fs, TypeOr l f.fType) {i : Nat} : Met l (ordF l o fs i) ∧ ∀ f ∈ fs.take i, f.fType < 0 ∨ f.fType ∈ ordF l o fs i := by
  have hk : ∀ y ∈ (fs.take i).map FieldD.fType, TypeOr l y := fun y hy => by
    obtain ⟨f, hf, rfl⟩ := List.mem_map.1 hy
    exact ht f (List.mem_of_mem_take hf)
  exact ⟨(fold_goes (fun o n ho => visit_goes n ho) _ _ hm).1, fun f hf => fold_has _ _ hm hk _ (List.mem_map_of_mem hf)⟩
theorem halfF_next {l : List TypeD} {o : List Int} {fs : List FieldD} (hm : Met l o) (ht : ∀ f ∈ fs, TypeOr l f.fType) {i : Nat} (h : i < fs.length) : halfF l o fs (i + 1) = (halfF l o fs i).set i (transF (ordF l o fs (i + 1)) fs[i]) := by
  have hh := ordF_has (i := i) hm ht
  have hg : Goes (ordF l o fs i) (ordF l o fs (i + 1)) := by rw [ordF_next h]; exact (visit_goes _ hh.1).2
  have e : (fs.take i).map (transF (ordF l o fs (i + 1))) = (fs.take i).map (transF (ordF l o fs i)) := by
    apply List.map_congr_left
    intro f hf
    unfold transF
    rw [hg.num (hh.2 f hf)]
  unfold halfF
  rw [List.take_succ_eq_append_getElem h, List.map_append, e, List.set_append_right _ _ (by simp; omega)]
  simp [Nat.min_eq_left (Nat.le_of_lt h)]
  rw [List.drop_eq_getElem_cons h]
  rfl
theorem fldA_set {L : List FieldD} {k : Nat} (x : FieldD) (h : k < L.length) : ((L.set k x).flatMap fldCells).toArray = (((L.flatMap fldCells).toArray.setIfInBounds (k * 3) (.string x.fName)).setIfInBounds (k * 3 + 1) (.int .i64 x.fMark)).setIfInBounds (k * 3 + 2) (.int .i64 x.fType) := by
  have key : ∀ (L : List FieldD) (k : Nat) (x : FieldD), k < L.length → (L.set k x).flatMap fldCells = (((L.flatMap fldCells).set (k * 3) (.string x.fName)).set (k * 3 + 1) (.int .i64 x.fMark)).set (k * 3 + 2) (.int .i64 x.fType) := by
    intro L
    induction L with
    | nil => intro k x h; exact absurd h (by simp)
    | cons y L ih =>
      intro k x h
      cases k with
      | zero => simp [fldCells]
      | succ k =>
        rw [List.set_cons_succ, List.flatMap_cons, List.flatMap_cons, ih k x (by simpa using h), show (k + 1) * 3 = k * 3 + 1 + 1 + 1 by omega]
        rfl
  rw [key L k x h]
  simp
theorem fldA_get {L : List FieldD} {k : Nat} {f : FieldD} (h : L[k]? = some f) : (L.flatMap fldCells).toArray[k * 3]? = some (.string f.fName) ∧ (L.flatMap fldCells).toArray[k * 3 + 1]? = some (.int .i64 f.fMark) ∧ (L.flatMap fldCells).toArray[k * 3 + 2]? = some (.int .i64 f.fType) := by
  obtain ⟨hk, rfl⟩ := List.getElem?_eq_some_iff.1 h
  have h0 := flatN_at fldCells 3 fld_len L k hk 0 (by decide)
  have h1 := flatN_at fldCells 3 fld_len L k hk 1 (by decide)
  have h2 := flatN_at fldCells 3 fld_len L k hk 2 (by decide)
  rw [List.getElem?_toArray, List.getElem?_toArray, List.getElem?_toArray]
  exact ⟨h0, h1, h2⟩

/-- The state of number while one type is told: b is the type's copy, fa the row of its fields' copies. -/
structure Nu (l : List TypeD) (a : Option Addr) (c g gm B : Nat) (X : Nat → Prop) (w0 : World) (iv0 : Value) (b : Nat) (fa : Option Addr) (a3 : Option Addr) (fs : List FieldD) (cells : Array Value) (w : World) (iv : Value) (o : List Int) (L : List TypeD) : Prop where
  te : Te l a c g gm B (fun q => X q ∨ q = b ∨ fa = some ⟨q, 0, none⟩) w iv o L
  box : Box w b 72 cells
  only : OnlyP g gm iv0 w0 w
  own : ∀ k, iv.ownBlock = some k → iv0.ownBlock = some k ∨ w0.heap.size ≤ k
  rows : Rows fieldS (fun q => q < B ∧ q ≠ g ∧ q ≠ gm) w a3 fs
  hb : w0.heap.size ≤ b
  hB : B ≤ b
  gb : g < b
  mb : gm < b
section
variable {l : List TypeD} {a : Option Addr} {c g gm B : Nat} {X : Nat → Prop} {w0 : World} {iv0 : Value} {b : Nat} {fa a3 : Option Addr} {fs : List FieldD} {cells : Array Value} {w w' : World} {iv iv' : Value} {o o' : List Int} {L L' : List TypeD}
theorem Nu.below (h : Nu l a c g gm B X w0 iv0 b fa a3 fs cells w iv o L) (hb : Below w.heap.size w w') : Nu l a c g gm B X w0 iv0 b fa a3 fs cells w' iv o L :=
  ⟨h.te.below hb, h.box.below hb h.box.lt, h.only.belowT hb, h.own, h.rows.below hb, h.hb, h.hB, h.gb, h.mb⟩
theorem Nu.drew (h : Nu l a c g gm B X w0 iv0 b fa a3 fs cells w iv o L) : Nu l a c g gm B X w0 iv0 b fa a3 fs cells w.drew iv o L := h.below (belowN (Below.refl _ _) 1)
theorem Nu.set (h : Nu l a c g gm B X w0 iv0 b fa a3 fs cells w iv o L) (i : Nat) (u : Value) : Nu l a c g gm B X w0 iv0 b fa a3 fs (cells.setIfInBounds i u) (w.setCell ⟨b, i, none⟩ u) iv o L := by
  have ho := (Only.refl b w).set i u
  exact ⟨h.te.aside ho (.inr (.inl rfl)) h.hB (by have := h.gb; omega) (by have := h.mb; omega), h.box.set i u, h.only.farT ho h.hb, h.own, h.rows.keep (fun q hq hl => ho.block q hl (fun e => by injection e with e; have := h.hB; omega)) ho.size, h.hb, h.hB, h.gb, h.mb⟩
/-- A cell of the fields' copies is written. -/
theorem Nu.setF {fb : Nat} (h : Nu l a c g gm B X w0 iv0 b (some ⟨fb, 0, none⟩) a3 fs cells w iv o L) (hfb : b < fb) (i : Nat) (u : Value) : Nu l a c g gm B X w0 iv0 b (some ⟨fb, 0, none⟩) a3 fs cells (w.setCell ⟨fb, i, none⟩ u) iv o L := by
  have ho := (Only.refl fb w).set i u
  have h1 := h.hb
  have h2 := h.hB
  exact ⟨h.te.aside ho (.inr (.inr rfl)) (by omega) (by have := h.gb; omega) (by have := h.mb; omega), h.box.only ho (by omega), h.only.farT ho (by omega), h.own, h.rows.keep (fun q hq hl => ho.block q hl (fun e => by injection e with e; omega)) ho.size, h.hb, h.hB, h.gb, h.mb⟩
/-- The fields' copies are made. -/
theorem Nu.mark (h : Nu l a c g gm B X w0 iv0 b none a3 fs cells w iv o L) (hb : Below w.heap.size w w') (hf : ∀ q, fa = some ⟨q, 0, none⟩ → w.heap.size ≤ q ∧ q < w'.heap.size) : Nu l a c g gm B X w0 iv0 b fa a3 fs cells w' iv o L := by
  have k := h.below hb
  refine ⟨⟨k.te.box, k.te.map, ?_, ?_, ?_, k.te.len, k.te.met, k.te.gX.imp id (fun e => e.imp id (fun e => by cases e)), k.te.mX.imp id (fun e => e.imp id (fun e => by cases e)), k.te.ne, k.te.rows, k.te.hB⟩, k.box, k.only, k.own, k.rows, k.hb, k.hB, k.gb, k.mb⟩
  · refine OwnG.below (OwnG.mono h.te.own (fun q hq hl => ⟨hq.1, fun e => ?_⟩)) hb
    rcases e with e | e | e
    · exact hq.2 (.inl e)
    · exact hq.2 (.inr (.inl e))
    · have := (hf q e).1; omega
  · intro q hq e
    rcases e with e | e | e
    · exact h.te.nx q hq (.inl e)
    · exact h.te.nx q hq (.inr (.inl e))
    · have := (hf q e).1
      have := (h.te.own.lt q hq).2
      omega
  · intro q e
    rcases e with e | e | e
    · exact k.te.xlt q (.inl e)
    · exact k.te.xlt q (.inr (.inl e))
    · exact (hf q e).2
/-- A type was numbered. -/
theorem Nu.call (h : Nu l a c g gm B X w0 iv0 b fa a3 fs cells w iv o L) (hte : Te l a c g gm B (fun q => X q ∨ q = b ∨ fa = some ⟨q, 0, none⟩) w' iv' o' L') (hop : OnlyP g gm iv w w') (hov : ∀ k, iv'.ownBlock = some k → iv.ownBlock = some k ∨ w.heap.size ≤ k) : Nu l a c g gm B X w0 iv0 b fa a3 fs cells w' iv' o' L' := by
  have hgB := h.gb
  have hmB := h.mb
  have hB := h.hB
  exact ⟨hte, hop.box h.box (by omega) (by omega) (fun e => h.te.nx b e (.inr (.inl rfl))), h.only.trans hop h.own, fun k hk => by
    rcases hov k hk with h1 | h1
    · exact h.own k h1
    · exact .inr (Nat.le_trans h.only.size h1), hop.rows h.rows h.te.far, h.hb, h.hB, h.gb, h.mb⟩
theorem Nu.callF {fb : Nat} {arr : Array Value} (h : Nu l a c g gm B X w0 iv0 b (some ⟨fb, 0, none⟩) a3 fs cells w iv o L) (hfb : b < fb) (hx : Box w fb 135 arr) (hop : OnlyP g gm iv w w') : Box w' fb 135 arr := by
  have hgB := h.gb
  have hmB := h.mb
  have hB := h.hB
  exact hop.box hx (by omega) (by omega) (fun e => h.te.nx fb e (.inr (.inr rfl)))
end
/-- Fields copied, however many. -/
def CopF (w' : World) (B : Nat) (fa : Option Addr) (cf : Nat) (fs : List FieldD) : Prop := (fs = [] ∧ fa = none ∧ cf = 0) ∨ (fs ≠ [] ∧ ∃ fb, fa = some ⟨fb, 0, none⟩ ∧ B ≤ fb ∧ cf = fs.length ∧ Box w' fb 135 (fs.flatMap fldCells).toArray)
theorem iCopiedFs (a : Option Addr) (c : Nat) (fs : List FieldD) (w : World) (hl : fs.length ≤ 1048576) (hr : Rows fieldS Any w a fs) :
    Calls Tryz.prog 159 #[.slice a fs.length c] w fun e w' => ∃ fa cf, e = .returned (.slice fa fs.length cf) ∧ CopF w' w.heap.size fa cf fs ∧ Below w.heap.size w w' := by
  by_cases h0 : fs.length = 0
  · obtain rfl : fs = [] := List.eq_nil_of_length_eq_zero h0
    refine (iCopiedField0 a c w).mono ?_
    rintro e w1 ⟨rfl, rfl⟩
    exact ⟨none, 0, rfl, .inl ⟨rfl, rfl, rfl⟩, Below.refl _ _⟩
  · obtain ⟨b, o, cs, e, _⟩ := hr 0 (by omega)
    subst e
    refine (iCopiedField b o c fs w (by omega) hl hr).mono ?_
    rintro e w1 ⟨rfl, hx, hb⟩
    exact ⟨_, _, rfl, .inr ⟨fun e => h0 (by rw [e]; rfl), _, rfl, Nat.le_refl _, rfl, hx⟩, hb⟩

theorem fld_rowsQ {w : World} {fb : Nat} {t : TypeId} {L : List FieldD} {Q : Nat → Prop} (hx : Box w fb t (L.flatMap fldCells).toArray) (hQ : Q fb) : Rows fieldS Q w (some ⟨fb, 0, none⟩) L := fun i hi => by
  have hn : fieldS.n = 3 := rfl
  refine ⟨fb, 0, fldCells L[i], rfl, hQ, hx.lt, fun j hj => ?_, rfl⟩
  rw [hn] at hj ⊢
  rw [Nat.zero_add, hx.cell, List.getElem?_toArray, flatN_at fldCells 3 fld_len L i hi j hj]
/-- One of those told is told anew. -/
theorem Te.store {l : List TypeD} {a : Option Addr} {c g gm B ib n ic k : Nat} {X : Nat → Prop} {w : World} {o : List Int} {L : List TypeD} {cs : List Value} {u : TypeD} (h : Te l a c g gm B X w (.slice (some ⟨ib, 0, none⟩) n ic) o L) (hk : k < L.length) (hu : typeS.At (fun q => (B ≤ q ∧ ¬ X q) ∧ q ≠ ib) w cs u) :
    Te l a c g gm B X (setL w ib (k * 6) cs) (.slice (some ⟨ib, 0, none⟩) n ic) o (L.set k u) ∧ Only ib w (setL w ib (k * 6) cs) := by
  have ho := Only.setL cs (k * 6) (Only.refl ib w)
  have hib := h.far ib rfl
  exact ⟨⟨h.box.only ho (fun e => h.nx ib rfl (e ▸ h.gX)), h.map.block (ho.block gm h.map.lt (fun e => by injection e with e; exact h.nx ib rfl (e ▸ h.mX))), OwnG.store h.own hk hu, h.nx, fun q hq => Nat.lt_of_lt_of_le (h.xlt q hq) ho.size, by rw [List.length_set]; exact h.len, h.met, h.gX, h.mX, h.ne, h.rows.keep (fun q hq hl => ho.block q hl (fun e => by injection e with e; omega)) ho.size, Nat.le_trans h.hB ho.size⟩, ho⟩
theorem OnlyP.own {p q ib : Nat} {v v' : Value} {w w1 w2 : World} (h : OnlyP p q v w w1) (ho : Only ib w1 w2) (hv' : v'.ownBlock = some ib) (hv : ∀ k, v'.ownBlock = some k → v.ownBlock = some k ∨ w.heap.size ≤ k) : OnlyP p q v w w2 :=
  h.trans (v' := v') ⟨ho.os, ho.tape, ho.output, ho.size, fun k hk _ _ hn => ho.block k hk (fun e => by injection e with e; subst e; exact hn hv')⟩ hv
/-- Six cells set, and one order drawn. -/
def six (w : World) (b p : Nat) (v0 v1 v2 v3 v4 v5 : Value) : World := (((((((w.setCell ⟨b, p, none⟩ v0).setCell ⟨b, p + 1, none⟩ v1).setCell ⟨b, p + 2, none⟩ v2).setCell ⟨b, p + 3, none⟩ v3).setCell ⟨b, p + 4, none⟩ v4).setCell ⟨b, p + 5, none⟩ v5)).drew
theorem six_setL (w : World) (b p : Nat) (v0 v1 v2 v3 v4 v5 : Value) : six w b p v0 v1 v2 v3 v4 v5 = (setL w b p [v0, v1, v2, v3, v4, v5]).drew := rfl
theorem numZ_here {o o' : List Int} {k : Nat} (hg : Goes (o ++ [(k : Int)]) o') (hk : (k : Int) ∉ o) : numZ o' (k : Int) = (o.length : Int) := by
  rw [hg.num (.inr (by simp)), numZ_last (by omega) hk]
/-- What number leaves behind. -/
theorem number_end {l : List TypeD} {a : Option Addr} {c g gm B : Nat} {X : Nat → Prop} {w0 : World} {iv0 : Value} {b : Nat} {fa a3 : Option Addr} {fs : List FieldD} {cells : Array Value} {wr : World} {ib ic k : Nat} {o o' : List Int} {L L5 : List TypeD} {z t : TypeD} {v0 v1 v2 v3 v4 v5 : Value}
    (h : Nu l a c g gm B X w0 iv0 b fa a3 fs cells wr (.slice (some ⟨ib, 0, none⟩) L5.length ic) o' L5) (T : Told l (o ++ [(k : Int)]) o' (L ++ [z]) L5) (hL : L.length = o.length) (hii : L.length < L5.length) (ht : typeZat l (k : Int) = t) (hgX : X g) (hmX : X gm)
    (hu : typeS.At (fun q => (B ≤ q ∧ ¬ X q) ∧ q ≠ ib) wr [v0, v1, v2, v3, v4, v5] (transT o' t)) : PostT l a c g gm B X w0 iv0 L o' (six wr ib (L.length * 6) v0 v1 v2 v3 v4 v5) := by
  obtain ⟨h1, h2⟩ := (h.te.less (X' := X) (fun q hq => .inl hq) hgX hmX).store hii hu
  have hb := belowN (Below.refl (setL wr ib (L.length * 6) [v0, v1, v2, v3, v4, v5]).heap.size (setL wr ib (L.length * 6) [v0, v1, v2, v3, v4, v5])) 1
  have hlen := T.len
  have hg9 : o'.getD L.length 0 = (k : Int) := by
    rw [T.goes.getD (by simp; omega), hL]
    simp [List.getD]
  rw [six_setL]
  refine ⟨_, _, h1.below hb, (h.only.own h2 rfl h.own).belowT hb, h.own, by rw [List.length_set]; omega, fun q => ⟨fun hq => ?_, fun hq1 hq2 => ?_⟩⟩
  · rw [List.getElem?_set_ne (by omega), T.low q (by simp; omega), List.getElem?_append_left hq]
  · by_cases e : q = L.length
    · subst e
      rw [List.getElem?_set_self hii, hg9, ht]
    · rw [List.getElem?_set_ne (by omega)]
      rw [List.length_set] at hq2
      exact T.high q (by simp; omega) (by omega)
end Go.Proofs.YtaccifjkeblhpaaGreat

namespace Go.Proofs.YtaccifjkeblhpaaGreat
open Go.ChangeShapes Go.WideShapes Go.ChangeAt Go.RowKit
set_option maxRecDepth 100000

/-- The number of a type, or none. -/
def TypeNo (l : List TypeD) (n : Int) : Prop := n = -1 ∨ ∃ k : Nat, n = (k : Int) ∧ k < l.length
theorem TypeNo.or {l : List TypeD} {n : Int} (h : TypeNo l n) : TypeOr l n := h.imp (fun e => by omega) id
theorem near.kids {l : List TypeD} (h : near l) : ∀ k (hk : k < l.length), ∀ y ∈ kidsD l[k], TypeNo l y := fun k hk y hy => by
  unfold kidsD at hy
  have hp := h.parts k hk
  rcases List.mem_cons.1 hy with rfl | hy
  · by_cases hb : l[k].fBase = -1
    · exact .inl hb
    · have h2 := hp l[k].fBase (by unfold partsD; rw [if_neg hb]; exact List.mem_append_left _ (List.mem_singleton.2 rfl))
      obtain ⟨j, e⟩ := Int.eq_ofNat_of_zero_le h2.1
      exact .inr ⟨j, e, by omega⟩
  · have h2 := hp y (by unfold partsD; exact List.mem_append_right _ hy)
    obtain ⟨j, e⟩ := Int.eq_ofNat_of_zero_le h2.1
    exact .inr ⟨j, e, by omega⟩
/-- Names of a bearable size. -/
def TypesSz (l : List TypeD) : Prop := ∀ t ∈ l, t.fOwner.size ≤ 1048576 ∧ t.fName.size ≤ 1048576 ∧ t.fFields.length ≤ 1048576 ∧ ∀ f ∈ t.fFields, f.fName.size ≤ 1048576
/-- The fields' copies, so far. -/
def FAt (w : World) (b : Nat) (fa : Option Addr) (cf : Nat) (fs L : List FieldD) : Prop := (fs = [] ∧ fa = none ∧ cf = 0) ∨ (fs ≠ [] ∧ ∃ fb, fa = some ⟨fb, 0, none⟩ ∧ b < fb ∧ cf = fs.length ∧ Box w fb 135 (L.flatMap fldCells).toArray)
def zeroT : TypeD := ⟨0, 0, 0, [], ⟨#[]⟩, ⟨#[]⟩⟩
set_option maxHeartbeats 16000000 in
theorem iNumber (l : List TypeD) (hnear : near l) (hsz : TypesSz l) (a : Option Addr) (c g gm B : Nat) (HC : CloneOk) : ∀ (r : Nat) (o : List Int) (n : Int), l.length + 1 - o.length ≤ r → (n = -1 ∨ ∃ k : Nat, n = (k : Int) ∧ k < l.length) → NumOk l a c g gm B o n := by
  have h24 := hnear.most
  intro r
  induction r with
  | zero =>
    intro o n hr _ X w iv L h
    have := h.met.len
    omega
  | succ r ih =>
    intro o n hr hn
    rcases hn with rfl | ⟨k, rfl, hk⟩
    · exact iNumber_none l a c g gm B o
    by_cases hm : (k : Int) ∈ o
    · exact iNumber_met l h24 a c g gm B o k hk hm
    intro X w iv L h
    have hmet := h.met
    have hol := hmet.len
    have hlen := h.len
    have IH := Lib.hid ih
    clear ih
    have hw : (Lit.int .i64 (k : Int)).wf = true := by
      simp [Lit.wf, IntKind.min, IntKind.max, IntKind.signed, IntKind.bits]
      omega
    obtain ⟨z, hrun, _⟩ := h.map.look (t := 114) Tryz.underlying114 hw
    rw [decide_eq_false hm] at hrun
    obtain ⟨w1, hput, hkm, hg1⟩ := h.mapPut (t := 114) Tryz.underlying114 (y := (k : Int)) (by omega) (by omega) (by omega) hm
    obtain ⟨ia, ic, rfl, _, _, _⟩ := OwnG.rows (Q := Any) h.own (fun _ _ _ => trivial) (fun _ _ => trivial)
    have H := Lib.hid h
    have HKM := Lib.hid hkm
    have HG1 := Lib.hid hg1
    have x1 : _ = some (Value.slice ia L.length ic) := h.box.cell 1
    have x2 : _ = some (Value.map (some gm)) := h.box.cell 2
    have hb1 : Box w1 g 116 #[.slice a l.length c, .slice ia L.length ic, .map (some gm)] := (hg1.block g h.box.lt (fun e => h.ne (by injection e))).trans h.box
    have B1 := Lib.hid hb1
    have x1b : _ = some (Value.slice ia L.length ic) := hb1.cell 1
    have n1 : ((k : Int) == -1) = false := beq_eq_false_iff_ne.2 (by omega)
    rw [← hlen] at hput
    have HLEN := Lib.hid hlen
    have hLl : L.length ≤ 24 := by omega
    clear hlen
    have hBw := h.hB
    have hs1 := hg1.size
    have hfar := h.far
    obtain ⟨i0, hi, hz0, hz1, hz2⟩ := info_parts infoType
    have Hi := Lib.hid (And.intro hi (And.intro hz0 (And.intro hz1 hz2)))
    have OW := Lib.hid (show OwnG typeS 72 B (fun q => B ≤ q ∧ ¬ X q) w1 (.slice ia L.length ic) L from h.own.keep (fun q hq hl => hg1.block q hl (fun e => by
      injection e with e
      rcases hq with h1 | h1
      · exact h1.2 (e ▸ h.mX)
      · exact h.nx q h1 (e ▸ h.mX))) hg1.size)
    clear h hkm hg1 hi hz0 hz1 hz2 hb1
    go_enter Tryz.func122, Tryz.ntmps122
    go_wp2_with (at_builtin; refine wpList_pushG rfl _ _ _ rfl typeS 72 i0 (.agg #[.int .i64 0, .int .i64 0, .int .i64 0, .slice none 0 0, .string ByteArray.empty, .string ByteArray.empty]) 80 Tryz.underlying29 ?q1 ?q2 ?q3 ?q4 rfl (by decide) (by omega) B (fun q => B ≤ q ∧ ¬ X q) _ _ L rfl ?q5 zeroT [.int .i64 0, .int .i64 0, .int .i64 0, .slice none 0 0, .string ⟨#[]⟩, .string ⟨#[]⟩] _ _ rfl ?q6 ?q7 ?q8 ?q9 ?q10 ?_)
    case q1 => exact Hi.out.1
    case q2 => exact Hi.out.2.1
    case q3 => exact Hi.out.2.2.1
    case q4 => exact Hi.out.2.2.2
    case q5 => exact OW.out.alloc _
    case q6 =>
      intro j _
      refine Eq.trans ((Box.new' (g := w1.heap.size) _ 72 #[.int .i64 0, .int .i64 0, .int .i64 0, .slice none 0 0, .string ⟨#[]⟩, .string ⟨#[]⟩] (by simp)).cell j) ?_
      simp
    case q7 => exact ⟨none, 0, rfl, Rows.nil, Nat.le_refl _⟩
    case q8 =>
      intro y hy
      simp only [List.mem_cons, List.not_mem_nil, or_false] at hy
      rcases hy with rfl | rfl | rfl | rfl | rfl | rfl <;> rfl
    case q9 => omega
    case q10 => simp; omega
    intro v2 w2 hown2 hg2 hv2
    obtain ⟨hT, hO, hV⟩ := H.out.more (y := (k : Int)) (ob := .cells #[.int .i64 0, .int .i64 0, .int .i64 0, .slice none 0 0, .string ⟨#[]⟩, .string ⟨#[]⟩] 72) ⟨by omega, by simpa using hk⟩ hm HKM.out HG1.out hown2 hg2 (by simpa using hv2)
    have B2 := Lib.hid ((hg2.block g (by have := B1.out.lt; simp; omega) (fun e => H.out.nx g e.symm H.out.gX)).trans (B1.out.alloc (.cells #[.int .i64 0, .int .i64 0, .int .i64 0, .slice none 0 0, .string ⟨#[]⟩, .string ⟨#[]⟩] 72)) |> fun b : Box w2 g 116 #[.slice a l.length c, .slice ia L.length ic, .map (some gm)] => b)
    have T3 := Lib.hid hT
    have O3 := Lib.hid hO
    have V3 := Lib.hid hV
    obtain ⟨na, nc, rfl, _, _, _⟩ := OwnG.rows (Q := Any) hown2 (fun _ _ _ => trivial) (fun _ _ => trivial)
    have y1 : _ = some (Value.slice ia L.length ic) := B2.out.cell 1
    have fy := B2.out.free 1
    have y0 : _ = some (Value.slice a l.length c) := T3.out.box.cell 0
    obtain ⟨tb, to, cs, hta, hQ, htl, hcs, hat⟩ := T3.out.rows k hk
    obtain ⟨a3, c3, rfl, hf3, hfc⟩ := hat
    subst hta
    have hS : typeS.n = 6 := rfl
    rw [hS] at hcs
    have d0 := hcs 0 (by decide)
    have d1 := hcs 1 (by decide)
    have d2 := hcs 2 (by decide)
    have d3 := hcs 3 (by decide)
    have d4 := hcs 4 (by decide)
    have d5 := hcs 5 (by decide)
    simp at d0 d1 d2 d3 d4 d5
    rw [show (L ++ [zeroT]).length = L.length + 1 from by simp] at *
    clear hcs hT hO hV hown2 hg2 hv2 hput hrun x1 x2 x1b
    have hsb : (w2.setCell ⟨g, 1, none⟩ (.slice na (L.length + 1) nc)).heap.size = w2.heap.size := by simp
    have N0 := Lib.hid (show Nu l (some ⟨tb, to, none⟩) c g gm B X w (.slice ia L.length ic) w2.heap.size none a3 l[k].fFields #[.int .i64 l[k].fKind, .int .i64 l[k].fLong, .int .i64 l[k].fBase, .slice a3 l[k].fFields.length c3, .string l[k].fOwner, .string l[k].fName] ((w2.setCell ⟨g, 1, none⟩ (.slice na (L.length + 1) nc)).alloc (.cells #[.int .i64 l[k].fKind, .int .i64 l[k].fLong, .int .i64 l[k].fBase, .slice a3 l[k].fFields.length c3, .string l[k].fOwner, .string l[k].fName] 72)) (.slice na (L.length + 1) nc) (o ++ [(k : Int)]) (L ++ [zeroT]) from
      ⟨(T3.out.other (.cells #[.int .i64 l[k].fKind, .int .i64 l[k].fLong, .int .i64 l[k].fBase, .slice a3 l[k].fFields.length c3, .string l[k].fOwner, .string l[k].fName] 72)).less (fun q hq => hq.imp id (fun e => (e.resolve_right (fun e => by cases e)).trans hsb.symm)) (.inl T3.out.gX) (.inl T3.out.mX), Box.new' _ _ _ (by simp), O3.out.alloc _, V3.out, hf3.below ((Below.refl _ _).alloc (Nat.le_refl _) _), Nat.le_trans O3.out.size (Nat.le_of_eq hsb), Nat.le_trans T3.out.hB (Nat.le_of_eq hsb), Nat.lt_of_lt_of_le T3.out.box.lt (Nat.le_of_eq hsb), Nat.lt_of_lt_of_le T3.out.map.lt (Nat.le_of_eq hsb)⟩)
    have TD0 := Lib.hid (Told.start (l := l) T3.out.len T3.out.met)
    have TD0' := Lib.hid T3.out.met
    have Hkids := Lib.hid (hnear.kids k hk)
    have Hsz := Lib.hid (hsz l[k] (List.getElem_mem hk))
    have Hres := Lib.hid (visit_new hmet hk hm)
    have Htz := Lib.hid (typeZat_in hk)
    have Hlead := Lib.hid hnear.leads
    clear hsb hf3 hfc hQ htl T3 O3 V3 B2 HKM HG1 B1 OW Hi
    go_wp2_with fail
    generalize hbb : w2.heap.size = b at *
    generalize (w2.setCell ⟨g, 1, none⟩ (.slice na (L.length + 1) nc)).alloc (.cells #[.int .i64 l[k].fKind, .int .i64 l[k].fLong, .int .i64 l[k].fBase, .slice a3 l[k].fFields.length c3, .string l[k].fOwner, .string l[k].fName] 72) = wq at *
    clear hbb d0 d1 d2 d3 d4 d5 y0 y1 fy
    generalize l[k] = t at *
    --R10<
    refine wp_region_held_drew (S := fun w' => w'.cell? ⟨b, 4, none⟩ = some (.string t.fOwner) ∧ w'.cell? ⟨b, 5, none⟩ = some (.string t.fName)) (by kernel_rfl) ?_ (fun hHeld => ?_)
    · try dsimp only
      exact ⟨N0.out.box.cell 4, N0.out.box.cell 5⟩
    refine wpAnyH_take (i := 0) (oi := { dst := some 52, op := Op.fieldAddr 72 (Operand.tmp 8) 4, type := 0, pos := "l4_scope.go:287", after := #[], guard := none }) (v := .pointer (some ⟨b, 4, none⟩)) rfl (by kernel_rfl) (by kernel_rfl) (by kernel_rfl) (fun _ _ _ h => h) (Or.inl ⟨by rfl, ?_⟩) (by assumption) ?_
    · intro wS hSw
      try dsimp only at hSw
      go_simp
    try simp only [Act.put, List.setIfInBounds_toArray, List.set_cons_zero, List.set_cons_succ]
    refine wpAnyH_take (i := 1) (oi := { dst := some 53, op := Op.load 9 (Operand.tmp 52), type := 9, pos := "l4_scope.go:287", after := #[{ on := 0, ground := Ground.data }], guard := none }) (v := .string t.fOwner) rfl (by kernel_rfl) (by kernel_rfl) (by kernel_rfl) (fun _ _ _ h => h) (Or.inl ⟨by rfl, ?_⟩) (by assumption) ?_
    · intro wS hSw
      try dsimp only at hSw
      go_simp
    try simp only [Act.put, List.setIfInBounds_toArray, List.set_cons_zero, List.set_cons_succ]
    refine wpAnyH_take (i := 3) (oi := { dst := some 55, op := Op.fieldAddr 72 (Operand.tmp 8) 5, type := 0, pos := "l4_scope.go:287", after := #[], guard := none }) (v := .pointer (some ⟨b, 5, none⟩)) rfl (by kernel_rfl) (by kernel_rfl) (by kernel_rfl) (fun _ _ _ h => h) (Or.inl ⟨by rfl, ?_⟩) (by assumption) ?_
    · intro wS hSw
      try dsimp only at hSw
      go_simp
    try simp only [Act.put, List.setIfInBounds_toArray, List.set_cons_zero, List.set_cons_succ]
    refine wpAnyH_take (i := 4) (oi := { dst := some 56, op := Op.load 9 (Operand.tmp 55), type := 9, pos := "l4_scope.go:287", after := #[{ on := 3, ground := Ground.data }], guard := none }) (v := .string t.fName) rfl (by kernel_rfl) (by kernel_rfl) (by kernel_rfl) (fun _ _ _ h => h) (Or.inl ⟨by rfl, ?_⟩) (by assumption) ?_
    · intro wS hSw
      try dsimp only at hSw
      go_simp
    try simp only [Act.put, List.setIfInBounds_toArray, List.set_cons_zero, List.set_cons_succ]
    refine wpAnyH_ready (rs := [2]) (by kernel_rfl) (by simp) ?_
    refine AllReadyH.cons (o := { dst := some 54, op := Op.call { callee := Callee.value (Operand.func 80), args := #[Operand.tmp 53], argTypes := #[9] }, type := 9, pos := "l4_scope.go:287", after := #[{ on := 1, ground := Ground.data }], guard := none }) rfl (fun K hK => ?_) AllReadyH.nil
    go_simp
    go_at_call 80
    refine (HC _ _ Hsz.out.1).mono ?_
    rintro e wa ⟨rfl, hba⟩
    have N1 := Lib.hid (N0.out.drew.below hba)
    clear hba
    refine hK.out _ _ ?_ (fun hHeld2 => ?_)
    · try dsimp only
      exact ⟨N1.out.box.cell 4, N1.out.box.cell 5⟩
    clear hK K hHeld
    have hHeld := hHeld2
    clear hHeld2
    try simp only [Act.put, List.setIfInBounds_toArray, List.set_cons_zero, List.set_cons_succ]
    refine wpAnyH_take (i := 6) (oi := { dst := some 58, op := Op.fieldAddr 72 (Operand.tmp 8) 4, type := 0, pos := "l4_scope.go:287", after := #[{ on := 0, ground := Ground.phase }, { on := 1, ground := Ground.phase }, { on := 2, ground := Ground.phase }, { on := 3, ground := Ground.phase }, { on := 4, ground := Ground.phase }, { on := 5, ground := Ground.textOnly Departure.lateStoresUnsure }], guard := none }) (v := .pointer (some ⟨b, 4, none⟩)) rfl (by kernel_rfl) (by kernel_rfl) (by kernel_rfl) (fun _ _ _ h => h) (Or.inl ⟨by rfl, ?_⟩) (by assumption) ?_
    · intro wS hSw
      try dsimp only at hSw
      go_simp
    try simp only [Act.put, List.setIfInBounds_toArray, List.set_cons_zero, List.set_cons_succ]
    refine wpAnyH_ready (rs := [5]) (by kernel_rfl) (by simp) ?_
    refine AllReadyH.cons (o := { dst := some 57, op := Op.call { callee := Callee.value (Operand.func 80), args := #[Operand.tmp 56], argTypes := #[9] }, type := 9, pos := "l4_scope.go:287", after := #[{ on := 4, ground := Ground.data }, { on := 2, ground := Ground.chain }], guard := none }) rfl (fun K hK => ?_) AllReadyH.nil
    go_simp
    go_at_call 80
    refine (HC _ _ Hsz.out.2.1).mono ?_
    rintro e wb ⟨rfl, hbb⟩
    have N2 := Lib.hid (N1.out.below hbb)
    clear hbb
    have z4 : _ = some (Value.string t.fOwner) := N2.out.box.cell 4
    have f4 := N2.out.box.free 4
    refine hK.out _ _ ?_ (fun hHeld2 => ?_)
    · try dsimp only
      exact ⟨N2.out.box.cell 4, N2.out.box.cell 5⟩
    clear hK K hHeld
    have hHeld := hHeld2
    clear hHeld2
    try simp only [Act.put, List.setIfInBounds_toArray, List.set_cons_zero, List.set_cons_succ]
    refine wpAnyH_ready (rs := [7]) (by kernel_rfl) (by simp) ?_
    refine AllReadyH.cons (o := { dst := none, op := Op.store 9 (Operand.tmp 58) (Operand.tmp 54), type := 0, pos := "l4_scope.go:287", after := #[{ on := 6, ground := Ground.data }, { on := 2, ground := Ground.data }, { on := 5, ground := Ground.chain }, { on := 0, ground := Ground.phase }, { on := 1, ground := Ground.phase }, { on := 2, ground := Ground.phase }, { on := 3, ground := Ground.phase }, { on := 4, ground := Ground.phase }, { on := 5, ground := Ground.textOnly Departure.lateStoresUnsure }], guard := none }) rfl (fun K hK => ?_) AllReadyH.nil
    go_simp
    have N3 := Lib.hid (show Nu l (some ⟨tb, to, none⟩) c g gm B X w (.slice ia L.length ic) b none a3 t.fFields #[.int .i64 t.fKind, .int .i64 t.fLong, .int .i64 t.fBase, .slice a3 t.fFields.length c3, .string t.fOwner, .string t.fName] (wb.setCell ⟨b, 4, none⟩ (.string t.fOwner)) (.slice na (L.length + 1) nc) (o ++ [(k : Int)]) (L ++ [zeroT]) from N2.out.set 4 (.string t.fOwner))
    have z5 : _ = some (Value.string t.fName) := N3.out.box.cell 5
    have f5 := N3.out.box.free 5
    refine hK.out _ _ ?_ (fun hHeld2 => ?_)
    · try dsimp only
      exact ⟨N3.out.box.cell 4, N3.out.box.cell 5⟩
    clear hK K hHeld
    have hHeld := hHeld2
    clear hHeld2
    try simp only [Act.put, List.setIfInBounds_toArray, List.set_cons_zero, List.set_cons_succ]
    refine wpAnyH_take (i := 8) (oi := { dst := some 59, op := Op.fieldAddr 72 (Operand.tmp 8) 5, type := 0, pos := "l4_scope.go:287", after := #[{ on := 0, ground := Ground.phase }, { on := 1, ground := Ground.phase }, { on := 2, ground := Ground.phase }, { on := 3, ground := Ground.phase }, { on := 4, ground := Ground.phase }, { on := 5, ground := Ground.phase }, { on := 6, ground := Ground.phase }, { on := 7, ground := Ground.phase }], guard := none }) (v := .pointer (some ⟨b, 5, none⟩)) rfl (by kernel_rfl) (by kernel_rfl) (by kernel_rfl) (fun _ _ _ h => h) (Or.inl ⟨by rfl, ?_⟩) (by assumption) ?_
    · intro wS hSw
      try dsimp only at hSw
      go_simp
    try simp only [Act.put, List.setIfInBounds_toArray, List.set_cons_zero, List.set_cons_succ]
    refine wpAnyH_ready (rs := [9]) (by kernel_rfl) (by simp) ?_
    refine AllReadyH.cons (o := { dst := none, op := Op.store 9 (Operand.tmp 59) (Operand.tmp 57), type := 0, pos := "l4_scope.go:287", after := #[{ on := 8, ground := Ground.data }, { on := 5, ground := Ground.data }, { on := 7, ground := Ground.chain }, { on := 0, ground := Ground.phase }, { on := 1, ground := Ground.phase }, { on := 2, ground := Ground.phase }, { on := 3, ground := Ground.phase }, { on := 4, ground := Ground.phase }, { on := 5, ground := Ground.phase }, { on := 6, ground := Ground.phase }, { on := 7, ground := Ground.phase }], guard := none }) rfl (fun K hK => ?_) AllReadyH.nil
    go_simp
    have N4 := Lib.hid (show Nu l (some ⟨tb, to, none⟩) c g gm B X w (.slice ia L.length ic) b none a3 t.fFields #[.int .i64 t.fKind, .int .i64 t.fLong, .int .i64 t.fBase, .slice a3 t.fFields.length c3, .string t.fOwner, .string t.fName] ((wb.setCell ⟨b, 4, none⟩ (.string t.fOwner)).setCell ⟨b, 5, none⟩ (.string t.fName)) (.slice na (L.length + 1) nc) (o ++ [(k : Int)]) (L ++ [zeroT]) from N3.out.set 5 (.string t.fName))
    refine hK.out _ _ ?_ (fun hHeld2 => ?_)
    · try dsimp only
      exact ⟨N4.out.box.cell 4, N4.out.box.cell 5⟩
    clear hK K hHeld
    have hHeld := hHeld2
    clear hHeld2
    try simp only [Act.put, List.setIfInBounds_toArray, List.set_cons_zero, List.set_cons_succ]
    refine wpAnyH_done (by kernel_rfl) ?_ _
    --R10>
    have N10 := Lib.hid N4.out
    clear N0 N1 N2 N3 N4 z4 f4 z5 f5
    generalize (wb.setCell ⟨b, 4, none⟩ (.string t.fOwner)).setCell ⟨b, 5, none⟩ (.string t.fName) = w10 at *
    have c2 : _ = some (Value.int .i64 t.fBase) := N10.out.box.cell 2
    go_wp2_with fail
    refine (IH.out (o ++ [(k : Int)]) t.fBase (by simp; omega) (Hkids.out t.fBase (by unfold kidsD; simp)) _ _ _ _ N10.out.te).mono ?_
    rintro e w11 ⟨rfl, iv1, L2, hte, hop, hov, hll, hlk⟩
    have TD1 := Lib.hid (TD0.out.next Hlead.out (Hkids.out t.fBase (by unfold kidsD; simp)).or hte.len hlk)
    have N11 := Lib.hid (N10.out.call hte hop hov)
    clear hte hop hov hll hlk c2 N10 TD0
    obtain ⟨bz, hbz⟩ : ∃ z, z = numZ (visitZ l (o ++ [(k : Int)]) t.fBase) t.fBase := ⟨_, rfl⟩
    rw [← hbz]
    have BZ := Lib.hid hbz
    clear hbz
    obtain ⟨o2, ho2⟩ : ∃ z, z = visitZ l (o ++ [(k : Int)]) t.fBase := ⟨_, rfl⟩
    rw [← ho2] at N11 TD1 BZ
    have O2 := Lib.hid ho2
    clear ho2
    have c2 : _ = some (Value.int .i64 t.fBase) := N11.out.box.cell 2
    have f2 := N11.out.box.free 2
    have N12 := Lib.hid (show Nu l (some ⟨tb, to, none⟩) c g gm B X w (.slice ia L.length ic) b none a3 t.fFields #[.int .i64 t.fKind, .int .i64 t.fLong, .int .i64 bz, .slice a3 t.fFields.length c3, .string t.fOwner, .string t.fName] (w11.setCell ⟨b, 2, none⟩ (.int .i64 bz)) iv1 o2 L2 from N11.out.set 2 (.int .i64 bz))
    have c3' : _ = some (Value.slice a3 t.fFields.length c3) := N12.out.box.cell 3
    clear N11
    go_wp2_with fail
    refine (iCopiedFs a3 c3 t.fFields _ Hsz.out.2.2.1 N12.out.rows.any).mono ?_
    rintro e w13 ⟨fa, cf, rfl, hcop, hb13⟩
    have hbl := N12.out.box.lt
    have N13 := Lib.hid (N12.out.mark (fa := fa) hb13 (fun q hq => by
      rcases hcop with ⟨_, e, _⟩ | ⟨_, fb, e, h1, _, h2⟩
      · rw [e] at hq; cases hq
      · rw [e] at hq
        injection hq with hq
        injection hq with hq
        subst hq
        exact ⟨h1, h2.lt⟩))
    have c3'' : _ = some (Value.slice a3 t.fFields.length c3) := N13.out.box.cell 3
    have f3 := N13.out.box.free 3
    have N14 := Lib.hid (show Nu l (some ⟨tb, to, none⟩) c g gm B X w (.slice ia L.length ic) b fa a3 t.fFields #[.int .i64 t.fKind, .int .i64 t.fLong, .int .i64 bz, .slice fa t.fFields.length cf, .string t.fOwner, .string t.fName] (w13.setCell ⟨b, 3, none⟩ (.slice fa t.fFields.length cf)) iv1 o2 L2 from N13.out.set 3 (.slice fa t.fFields.length cf))
    have F14 := Lib.hid (show FAt (w13.setCell ⟨b, 3, none⟩ (.slice fa t.fFields.length cf)) b fa cf t.fFields t.fFields from by
      rcases hcop with ⟨h1, h2, h3⟩ | ⟨h0, fb, h1, h2, h3, h4⟩
      · exact .inl ⟨h1, h2, h3⟩
      · exact .inr ⟨h0, fb, h1, by omega, h3, h4.only ((Only.refl b w13).set 3 _) (by omega)⟩)
    have x3 : _ = some (Value.slice fa t.fFields.length cf) := N14.out.box.cell 3
    have hfl := Hsz.out.2.2.1
    clear N12 N13 hcop hb13 c2 f2 hbl
    go_wp2_with fail
    go_loopw [72] (fun x wr => ∃ (i : Nat) (iv5 : Value) (L5 : List TypeD), x = .int .i64 i ∧ i ≤ t.fFields.length ∧ Nu l (some ⟨tb, to, none⟩) c g gm B X w (.slice ia L.length ic) b fa a3 t.fFields #[.int .i64 t.fKind, .int .i64 t.fLong, .int .i64 bz, .slice fa t.fFields.length cf, .string t.fOwner, .string t.fName] wr iv5 (ordF l o2 t.fFields i) L5 ∧ Told l (o ++ [(k : Int)]) (ordF l o2 t.fFields i) (L ++ [zeroT]) L5 ∧ FAt wr b fa cf t.fFields (halfF l o2 t.fFields i)) (fun x _ => t.fFields.length - (intOf x).toNat)
    case atStart => exact ⟨0, iv1, L2, rfl, by omega, N14.out, TD1.out, by rw [halfF_zero]; exact F14.out⟩
    case round =>
      clear c3' c3'' f3 x3
      obtain ⟨i, iv5, L5, rfl, hi5, hN, hT, hF⟩ := hrel
      have NR := Lib.hid hN
      have TR := Lib.hid hT
      by_cases hlt : i < t.fFields.length
      · rcases hF with ⟨h0, _, _⟩ | ⟨hne, fb, rfl, hbf, hcf, hbx⟩
        · rw [h0] at hlt; simp at hlt
        have HCF := Lib.hid hcf
        clear hcf
        have hord := TR.out.goes.len
        have hoi := TR.out.met.len
        have hfk := Hkids.out t.fFields[i].fType (by unfold kidsD; exact List.mem_cons_of_mem _ (List.mem_map_of_mem (List.getElem_mem hlt)))
        obtain ⟨a0, a1, a2⟩ := fldA_get (halfF_at (l := l) (o := o2) hlt)
        have hti : ∀ f ∈ t.fFields, TypeOr l f.fType := fun f hf => (Hkids.out f.fType (by unfold kidsD; exact List.mem_cons_of_mem _ (List.mem_map_of_mem hf))).or
        have hlh : i < (halfF l o2 t.fFields i).length := by rw [halfF_len hi5]; exact hlt
        have Hnx := Lib.hid (show ((halfF l o2 t.fFields (i + 1)).flatMap fldCells).toArray = _ by rw [halfF_next TD1.out.met hti hlt, fldA_set _ hlh])
        have HO := Lib.hid (ordF_next (l := l) (o := o2) hlt)
        have hfs := Hsz.out.2.2.2 _ (List.getElem_mem hlt)
        have HF := Lib.hid (fun W te => iTellField l (some ⟨tb, to, none⟩) c g gm B (ordF l o2 t.fFields i) t.fFields[i] (IH.out _ t.fFields[i].fType (by simp at hord; omega) hfk) HC hfs (fun q => X q ∨ q = b ∨ (some ⟨fb, 0, none⟩ : Option Addr) = some ⟨q, 0, none⟩) W iv5 L5 te)
        unfold transF at Hnx
        dsimp only at Hnx
        rw [HO.out] at Hnx
        have c0 := (hbx.cell (i * 3)).trans a0
        have c1 := (hbx.cell (i * 3 + 1)).trans a1
        have c2 := (hbx.cell (i * 3 + 2)).trans a2
        have E0 := Lib.hid a0
        have E1 := Lib.hid a1
        have E2 := Lib.hid a2
        have HOR := Lib.hid hfk.or
        clear a0 a1 a2 hti hlh hfs hfk hN hT
        unfold transF at HF
        dsimp only at HF
        generalize t.fFields[i] = f at *
        generalize ((halfF l o2 t.fFields i).flatMap fldCells).toArray = arr at *
        have HOW := Lib.hid (fun q (hq : iv5.ownBlock = some q) => (NR.out.te.own.lt q hq).2)
        have NB := Lib.hid (NR.out.below ((Below.refl wr.heap.size wr).alloc (Nat.le_refl _) (.cells #[.string f.fName, .int .i64 f.fMark, .int .i64 f.fType] 135)))
        have FB := Lib.hid (hbx.alloc (.cells #[.string f.fName, .int .i64 f.fMark, .int .i64 f.fType] 135))
        have YB := Lib.hid (Box.new wr 135 #[.string f.fName, .int .i64 f.fMark, .int .i64 f.fType])
        have hyf : wr.heap.size ≠ fb := by have := hbx.lt; omega
        have hyg : wr.heap.size ≠ g := by have := NR.out.te.box.lt; omega
        have hym : wr.heap.size ≠ gm := by have := NR.out.te.map.lt; omega
        clear hbx NR
        obtain ⟨nz, hnz⟩ : ∃ z, z = numZ (visitZ l (ordF l o2 t.fFields i) f.fType) f.fType := ⟨_, rfl⟩
        obtain ⟨nn, hnn⟩ : ∃ z : ByteArray, z = (if f.fMark = 0 then ⟨#[]⟩ else f.fName) := ⟨_, rfl⟩
        rw [← hnz, ← hnn] at HF Hnx
        clear hnz hnn
        go_wp2_with fail
        generalize hyy : wr.heap.size = y at *
        generalize wr.alloc (.cells #[.string f.fName, .int .i64 f.fMark, .int .i64 f.fType] 135) = wq at *
        clear hyy c0 c1 c2
        --R16<
        refine wp_region_held_drew (S := fun w' => w'.cell? ⟨b, 3, none⟩ = some (.slice (some ⟨fb, 0, none⟩) t.fFields.length cf) ∧ w'.cell? ⟨y, 0, none⟩ = some (.string f.fName) ∧ w'.cell? ⟨y, 1, none⟩ = some (.int .i64 f.fMark) ∧ w'.cell? ⟨y, 2, none⟩ = some (.int .i64 f.fType)) (by kernel_rfl) ?_ (fun hHeld => ?_)
        · try dsimp only
          exact ⟨NB.out.box.cell 3, YB.out.cell 0, YB.out.cell 1, YB.out.cell 2⟩
        refine wpAnyH_take (i := 0) (oi := { dst := some 77, op := Op.fieldAddr 72 (Operand.tmp 8) 3, type := 0, pos := "l4_scope.go:291", after := #[], guard := none }) (v := .pointer (some ⟨b, 3, none⟩)) rfl (by kernel_rfl) (by kernel_rfl) (by kernel_rfl) (fun _ _ _ h => h) (Or.inl ⟨by rfl, ?_⟩) (by assumption) ?_
        · intro wS hSw
          try dsimp only at hSw
          go_simp
        try simp only [Act.put, List.setIfInBounds_toArray, List.set_cons_zero, List.set_cons_succ]
        refine wpAnyH_take (i := 1) (oi := { dst := some 78, op := Op.load 70 (Operand.tmp 77), type := 70, pos := "l4_scope.go:291", after := #[{ on := 0, ground := Ground.data }], guard := none }) (v := .slice (some ⟨fb, 0, none⟩) t.fFields.length cf) rfl (by kernel_rfl) (by kernel_rfl) (by kernel_rfl) (fun _ _ _ h => h) (Or.inl ⟨by rfl, ?_⟩) (by assumption) ?_
        · intro wS hSw
          try dsimp only at hSw
          go_simp
        try simp only [Act.put, List.setIfInBounds_toArray, List.set_cons_zero, List.set_cons_succ]
        refine wpAnyH_take (i := 2) (oi := { dst := some 79, op := Op.move (Operand.tmp 9), type := 3, pos := "l4_scope.go:291", after := #[], guard := none }) (v := .int .i64 (i : Int)) rfl (by kernel_rfl) (by kernel_rfl) (by kernel_rfl) (fun _ _ _ h => h) (Or.inl ⟨by rfl, ?_⟩) (by assumption) ?_
        · intro wS hSw
          try dsimp only at hSw
          go_simp
        try simp only [Act.put, List.setIfInBounds_toArray, List.set_cons_zero, List.set_cons_succ]
        refine wpAnyH_take (i := 3) (oi := { dst := some 80, op := Op.move (Operand.tmp 0), type := 153, pos := "l4_scope.go:291", after := #[], guard := none }) (v := .pointer (some ⟨g, 0, none⟩)) rfl (by kernel_rfl) (by kernel_rfl) (by kernel_rfl) (fun _ _ _ h => h) (Or.inl ⟨by rfl, ?_⟩) (by assumption) ?_
        · intro wS hSw
          try dsimp only at hSw
          go_simp
        try simp only [Act.put, List.setIfInBounds_toArray, List.set_cons_zero, List.set_cons_succ]
        refine wpAnyH_take (i := 4) (oi := { dst := some 81, op := Op.load 135 (Operand.tmp 10), type := 135, pos := "l4_scope.go:291", after := #[], guard := none }) (v := .agg #[.string f.fName, .int .i64 f.fMark, .int .i64 f.fType]) rfl (by kernel_rfl) (by kernel_rfl) (by kernel_rfl) (fun _ _ _ h => h) (Or.inl ⟨by rfl, ?_⟩) (by assumption) ?_
        · intro wS hSw
          try dsimp only at hSw
          go_simp
        try simp only [Act.put, List.setIfInBounds_toArray, List.set_cons_zero, List.set_cons_succ]
        refine wpAnyH_ready (rs := [5]) (by kernel_rfl) (by simp) ?_
        refine AllReadyH.cons (o := { dst := some 82, op := Op.call { callee := Callee.value (Operand.func 160), args := #[Operand.tmp 80, Operand.tmp 81], argTypes := #[153, 135] }, type := 135, pos := "l4_scope.go:291", after := #[{ on := 3, ground := Ground.data }, { on := 4, ground := Ground.data }], guard := none }) rfl (fun K hK => ?_) AllReadyH.nil
        go_simp
        go_at_call 160
        refine (HF.out _ (NB.out.drew).te).mono ?_
        rintro e w5 ⟨rfl, iv6, L6, hte5, hop5, hov5, hll5, hlk5⟩
        have N5 := Lib.hid (NB.out.drew.call hte5 hop5 hov5)
        have F5 := Lib.hid (NB.out.drew.callF hbf (FB.out.drewN 1) hop5)
        have Y5 := Lib.hid (hop5.box (YB.out.drewN 1) hyg hym (fun e => by have := HOW.out y e; omega))
        have K5 := Lib.hid hlk5
        have hl5 := hte5.len
        clear hte5 hop5 hov5 hll5 hlk5
        have u0 : _ = some (Value.string f.fName) := (F5.out.cell (i * 3)).trans E0.out
        have u1 : _ = some (Value.int .i64 f.fMark) := (F5.out.cell (i * 3 + 1)).trans E1.out
        have u2 : _ = some (Value.int .i64 f.fType) := (F5.out.cell (i * 3 + 2)).trans E2.out
        have uf := F5.out.free
        refine hK.out _ _ ?_ (fun hHeld2 => ?_)
        · try dsimp only
          exact ⟨N5.out.box.cell 3, Y5.out.cell 0, Y5.out.cell 1, Y5.out.cell 2⟩
        clear hK K hHeld
        have hHeld := hHeld2
        clear hHeld2
        try simp only [Act.put, List.setIfInBounds_toArray, List.set_cons_zero, List.set_cons_succ]
        refine wpAnyH_take (i := 6) (oi := { dst := some 83, op := Op.indexAddr 70 (Operand.tmp 78) (Operand.tmp 79), type := 0, pos := "l4_scope.go:291", after := #[{ on := 1, ground := Ground.data }, { on := 2, ground := Ground.data }, { on := 0, ground := Ground.phase }, { on := 1, ground := Ground.phase }, { on := 2, ground := Ground.phase }, { on := 3, ground := Ground.phase }, { on := 4, ground := Ground.phase }, { on := 5, ground := Ground.phase }], guard := none }) (v := .pointer (some ⟨fb, i * 3, none⟩)) rfl (by kernel_rfl) (by kernel_rfl) (by kernel_rfl) (fun _ _ _ h => h) (Or.inl ⟨by rfl, ?_⟩) (by assumption) ?_
        · intro wS hSw
          try dsimp only at hSw
          go_simp
        try simp only [Act.put, List.setIfInBounds_toArray, List.set_cons_zero, List.set_cons_succ]
        refine wpAnyH_ready (rs := [7]) (by kernel_rfl) (by simp) ?_
        refine AllReadyH.cons (o := { dst := none, op := Op.store 135 (Operand.tmp 83) (Operand.tmp 82), type := 0, pos := "l4_scope.go:291", after := #[{ on := 6, ground := Ground.data }, { on := 5, ground := Ground.data }, { on := 5, ground := Ground.chain }, { on := 0, ground := Ground.phase }, { on := 1, ground := Ground.phase }, { on := 2, ground := Ground.phase }, { on := 3, ground := Ground.phase }, { on := 4, ground := Ground.phase }, { on := 5, ground := Ground.phase }], guard := none }) rfl (fun K hK => ?_) AllReadyH.nil
        go_simp
        refine hK.out _ _ ?_ (fun hHeld2 => ?_)
        · try dsimp only
          exact ⟨(((N5.out.setF hbf _ _).setF hbf _ _).setF hbf _ _).box.cell 3, (Y5.out.only ((((Only.refl fb w5).set (i * 3) _).set (i * 3 + 1) _).set (i * 3 + 2) _) hyf).cell 0, (Y5.out.only ((((Only.refl fb w5).set (i * 3) _).set (i * 3 + 1) _).set (i * 3 + 2) _) hyf).cell 1, (Y5.out.only ((((Only.refl fb w5).set (i * 3) _).set (i * 3 + 1) _).set (i * 3 + 2) _) hyf).cell 2⟩
        clear hK K hHeld
        have hHeld := hHeld2
        clear hHeld2
        try simp only [Act.put, List.setIfInBounds_toArray, List.set_cons_zero, List.set_cons_succ]
        refine wpAnyH_done (by kernel_rfl) ?_ _
        --R16>
        have N6 := Lib.hid (((N5.out.setF hbf (i * 3) (.string nn)).setF hbf (i * 3 + 1) (.int .i64 f.fMark)).setF hbf (i * 3 + 2) (.int .i64 nz))
        have X6 := Lib.hid (((F5.out.set (i * 3) (.string nn)).set (i * 3 + 1) (.int .i64 f.fMark)).set (i * 3 + 2) (.int .i64 nz))
        rw [← Hnx.out] at X6
        have T6 := Lib.hid (TR.out.next Hlead.out HOR.out hl5 K5.out)
        rw [← HO.out] at T6 N6
        go_wp2_with fail
        exact ⟨⟨i + 1, iv6, L6, by congr 1, by omega, N6.out, T6.out, .inr ⟨hne, fb, rfl, hbf, HCF.out, X6.out⟩⟩, by simp [intOf]; omega⟩
      · obtain rfl : i = t.fFields.length := by omega
        have Hvis := Lib.hid (show visitZ l o (k : Int) = ordF l o2 t.fFields t.fFields.length by rw [Hres.out, ordF_all, O2.out]; rfl)
        obtain ⟨o', ho'⟩ : ∃ z, z = ordF l o2 t.fFields t.fFields.length := ⟨_, rfl⟩
        have hgo : Goes o2 o' := by rw [ho', ordF_all]; exact (fold_goes (fun o n ho => visit_goes n ho) _ _ TD1.out.met).2
        have hbase : bz = numZ o' t.fBase := by
          rw [BZ.out]
          exact (hgo.num (by rw [O2.out]; exact visit_has TD0'.out (Hkids.out t.fBase (by unfold kidsD; simp)).or)).symm
        have hall : halfF l o2 t.fFields t.fFields.length = t.fFields.map (transF o') := by rw [halfF_all, ← ho']
        rw [hall] at hF
        rw [← ho'] at NR TR Hvis
        clear hN hT hall hgo ho'
        have hol2 := TR.out.goes.len
        have hLl5 := TR.out.len
        have hol5 := TR.out.met.len
        have hLo := HLEN.out
        have hii : L.length < L5.length := by simp at hol2; omega
        obtain ⟨ib, ic, cs, rfl, hibB, hibl, hat5, hc5, hf5⟩ := OwnG.elem NR.out.te.own hii
        obtain ⟨a5, c5, rfl, _, _⟩ := hat5
        rw [show typeS.n = 6 from rfl] at hc5
        have e0 := hc5 0 (by decide)
        have e1 := hc5 1 (by decide)
        have e2 := hc5 2 (by decide)
        have e3 := hc5 3 (by decide)
        have e4 := hc5 4 (by decide)
        have e5 := hc5 5 (by decide)
        simp at e0 e1 e2 e3 e4 e5
        have z1 : _ = some (Value.slice (some ⟨ib, 0, none⟩) L5.length ic) := NR.out.te.box.cell 1
        have m0 : _ = some (Value.int .i64 t.fKind) := NR.out.box.cell 0
        have m1 : _ = some (Value.int .i64 t.fLong) := NR.out.box.cell 1
        have m2 : _ = some (Value.int .i64 bz) := NR.out.box.cell 2
        have m3 : _ = some (Value.slice fa t.fFields.length cf) := NR.out.box.cell 3
        have m4 : _ = some (Value.string t.fOwner) := NR.out.box.cell 4
        have m5 : _ = some (Value.string t.fName) := NR.out.box.cell 5
        have hXf : ∀ q, w.heap.size ≤ q → ¬ X q := fun q hq hx => by have := H.out.xlt q hx; omega
        have HU := Lib.hid (show typeS.At (fun q => (B ≤ q ∧ ¬ X q) ∧ q ≠ ib) wr [.int .i64 t.fKind, .int .i64 t.fLong, .int .i64 bz, .slice fa t.fFields.length cf, .string t.fOwner, .string t.fName] (transT o' t) from by
          have hnb := NR.out.hb
          have hnB := NR.out.hB
          have hnx := NR.out.te.nx ib rfl
          refine ⟨fa, cf, ?_, ?_, ?_⟩
          · rw [show (transT o' t).fFields.length = t.fFields.length from by simp [transT], hbase]
            rfl
          · rcases hF with ⟨h0, h1, _⟩ | ⟨h0, fb, h1, h2, _, h4⟩
            · rw [h1, show (transT o' t).fFields = [] from by simp [transT, h0]]
              exact Rows.nil
            · rw [h1]
              exact fld_rowsQ h4 ⟨⟨by omega, hXf fb (by omega)⟩, fun e => hnx (.inr (.inr (by rw [h1, e])))⟩
          · rw [show (transT o' t).fFields.length = t.fFields.length from by simp [transT]]
            rcases hF with ⟨h0, _, h3⟩ | ⟨_, fb, _, _, h3, _⟩
            · rw [h0]; simp
            · omega)
        have HU2 := Lib.hid HU.out
        clear hF hbase hc5 HU hXf hLo hLl5 hol2 hol5
        have HE := Lib.hid (number_end NR.out TR.out HLEN.out hii Htz.out H.out.gX H.out.mX HU2.out)
        have HV := Lib.hid (show numZ (visitZ l o (k : Int)) (k : Int) = (L.length : Int) by rw [Hvis.out, numZ_here TR.out.goes hm, HLEN.out])
        rw [← Hvis.out] at HE
        clear HLEN
        go_wp2_with fail
        go_region
        go_wp2_with fail
        go_ret
        exact ⟨by rw [HV.out]; rfl, HE.out⟩
end Go.Proofs.YtaccifjkeblhpaaGreat

namespace Go.Proofs.YtaccifjkeblhpaaGreat
open Go.ChangeShapes Go.WideShapes Go.ChangeAt Go.RowKit
set_option maxRecDepth 100000

/-- The order behind the first i of some params. -/
def ordP (l : List TypeD) (o : List Int) (fs : List ParamD) (i : Nat) : List Int := ((fs.take i).map ParamD.fType).foldl (visitZ l) o
theorem ordP_zero {l : List TypeD} {o : List Int} {fs : List ParamD} : ordP l o fs 0 = o := rfl
theorem ordP_next {l : List TypeD} {o : List Int} {fs : List ParamD} {i : Nat} (h : i < fs.length) : ordP l o fs (i + 1) = visitZ l (ordP l o fs i) fs[i].fType := by
  unfold ordP
  rw [List.take_succ_eq_append_getElem h, List.map_append, List.foldl_append]
  rfl
theorem ordP_all {l : List TypeD} {o : List Int} {fs : List ParamD} : ordP l o fs fs.length = (fs.map ParamD.fType).foldl (visitZ l) o := by unfold ordP; rw [List.take_length]
/-- The first i told, the others as they were. -/
def halfP (l : List TypeD) (o : List Int) (fs : List ParamD) (i : Nat) : List ParamD := (fs.take i).map (transP (ordP l o fs i)) ++ fs.drop i
theorem halfP_zero {l : List TypeD} {o : List Int} {fs : List ParamD} : halfP l o fs 0 = fs := by simp [halfP]
theorem halfP_all {l : List TypeD} {o : List Int} {fs : List ParamD} : halfP l o fs fs.length = fs.map (transP (ordP l o fs fs.length)) := by simp [halfP]
theorem halfP_len {l : List TypeD} {o : List Int} {fs : List ParamD} {i : Nat} (h : i ≤ fs.length) : (halfP l o fs i).length = fs.length := by simp [halfP]; omega
theorem halfP_at {l : List TypeD} {o : List Int} {fs : List ParamD} {i : Nat} (h : i < fs.length) : (halfP l o fs i)[i]? = some fs[i] := by
  unfold halfP
  rw [List.getElem?_append_right (by simp; omega)]
  simp [Nat.min_eq_left (Nat.le_of_lt h), h]
theorem ordP_has {l : List TypeD} {o : List Int} {fs : List ParamD} (hm : Met l o) (ht : ∀ f ∈ fs, TypeOr l f.fType) {i : Nat} : Met l (ordP l o fs i) ∧ ∀ f ∈ fs.take i, f.fType < 0 ∨ f.fType ∈ ordP l o fs i := by
  have hk : ∀ y ∈ (fs.take i).map ParamD.fType, TypeOr l y := fun y hy => by
    obtain ⟨f, hf, rfl⟩ := List.mem_map.1 hy
    exact ht f (List.mem_of_mem_take hf)
  exact ⟨(fold_goes (fun o n ho => visit_goes n ho) _ _ hm).1, fun f hf => fold_has _ _ hm hk _ (List.mem_map_of_mem hf)⟩
theorem halfP_next {l : List TypeD} {o : List Int} {fs : List ParamD} (hm : Met l o) (ht : ∀ f ∈ fs, TypeOr l f.fType) {i : Nat} (h : i < fs.length) : halfP l o fs (i + 1) = (halfP l o fs i).set i (transP (ordP l o fs (i + 1)) fs[i]) := by
  have hh := ordP_has (i := i) hm ht
  have hg : Goes (ordP l o fs i) (ordP l o fs (i + 1)) := by rw [ordP_next h]; exact (visit_goes _ hh.1).2
  have e : (fs.take i).map (transP (ordP l o fs (i + 1))) = (fs.take i).map (transP (ordP l o fs i)) := by
    apply List.map_congr_left
    intro f hf
    unfold transP
    rw [hg.num (hh.2 f hf)]
  unfold halfP
  rw [List.take_succ_eq_append_getElem h, List.map_append, e, List.set_append_right _ _ (by simp; omega)]
  simp [Nat.min_eq_left (Nat.le_of_lt h)]
  rw [List.drop_eq_getElem_cons h]
  rfl

/-- The state while one object is told: b is the object's copy, b + 1 the answer, pa the row of its params' copies. -/
structure Nb (l : List TypeD) (a : Option Addr) (c g gm B : Nat) (X : Nat → Prop) (w0 : World) (iv0 : Value) (b : Nat) (pa : Option Addr) (a5 : Option Addr) (ps : List ParamD) (cells rc : Array Value) (w : World) (iv : Value) (o : List Int) (L : List TypeD) : Prop where
  te : Te l a c g gm B (fun q => X q ∨ q = b ∨ q = b + 1 ∨ pa = some ⟨q, 0, none⟩) w iv o L
  box : Box w b 78 cells
  rbox : Box w (b + 1) 78 rc
  only : OnlyP g gm iv0 w0 w
  own : ∀ k, iv.ownBlock = some k → iv0.ownBlock = some k ∨ w0.heap.size ≤ k
  rows : Rows paramS (fun q => q < B ∧ q ≠ g ∧ q ≠ gm) w a5 ps
  hb : w0.heap.size ≤ b
  hB : B ≤ b
  gb : g < b
  mb : gm < b
section
variable {l : List TypeD} {a : Option Addr} {c g gm B : Nat} {X : Nat → Prop} {w0 : World} {iv0 : Value} {b : Nat} {pa a5 : Option Addr} {ps : List ParamD} {cells rc : Array Value} {w w' : World} {iv iv' : Value} {o o' : List Int} {L L' : List TypeD}
theorem Nb.below (h : Nb l a c g gm B X w0 iv0 b pa a5 ps cells rc w iv o L) (hb : Below w.heap.size w w') : Nb l a c g gm B X w0 iv0 b pa a5 ps cells rc w' iv o L :=
  ⟨h.te.below hb, h.box.below hb h.box.lt, h.rbox.below hb h.rbox.lt, h.only.belowT hb, h.own, h.rows.below hb, h.hb, h.hB, h.gb, h.mb⟩
theorem Nb.drew (h : Nb l a c g gm B X w0 iv0 b pa a5 ps cells rc w iv o L) : Nb l a c g gm B X w0 iv0 b pa a5 ps cells rc w.drew iv o L := h.below (belowN (Below.refl _ _) 1)
theorem Nb.set (h : Nb l a c g gm B X w0 iv0 b pa a5 ps cells rc w iv o L) (i : Nat) (u : Value) : Nb l a c g gm B X w0 iv0 b pa a5 ps (cells.setIfInBounds i u) rc (w.setCell ⟨b, i, none⟩ u) iv o L := by
  have ho := (Only.refl b w).set i u
  exact ⟨h.te.aside ho (.inr (.inl rfl)) h.hB (by have := h.gb; omega) (by have := h.mb; omega), h.box.set i u, h.rbox.only ho (by omega), h.only.farT ho h.hb, h.own, h.rows.keep (fun q hq hl => ho.block q hl (fun e => by injection e with e; have := h.hB; omega)) ho.size, h.hb, h.hB, h.gb, h.mb⟩
theorem Nb.setR (h : Nb l a c g gm B X w0 iv0 b pa a5 ps cells rc w iv o L) (i : Nat) (u : Value) : Nb l a c g gm B X w0 iv0 b pa a5 ps cells (rc.setIfInBounds i u) (w.setCell ⟨b + 1, i, none⟩ u) iv o L := by
  have ho := (Only.refl (b + 1) w).set i u
  have h1 := h.hb
  have h2 := h.hB
  exact ⟨h.te.aside ho (.inr (.inr (.inl rfl))) (by omega) (by have := h.gb; omega) (by have := h.mb; omega), h.box.only ho (by omega), h.rbox.set i u, h.only.farT ho (by omega), h.own, h.rows.keep (fun q hq hl => ho.block q hl (fun e => by injection e with e; omega)) ho.size, h.hb, h.hB, h.gb, h.mb⟩
theorem Nb.setP {pb : Nat} (h : Nb l a c g gm B X w0 iv0 b (some ⟨pb, 0, none⟩) a5 ps cells rc w iv o L) (hpb : b + 1 < pb) (i : Nat) (u : Value) : Nb l a c g gm B X w0 iv0 b (some ⟨pb, 0, none⟩) a5 ps cells rc (w.setCell ⟨pb, i, none⟩ u) iv o L := by
  have ho := (Only.refl pb w).set i u
  have h1 := h.hb
  have h2 := h.hB
  exact ⟨h.te.aside ho (.inr (.inr (.inr rfl))) (by omega) (by have := h.gb; omega) (by have := h.mb; omega), h.box.only ho (by omega), h.rbox.only ho (by omega), h.only.farT ho (by omega), h.own, h.rows.keep (fun q hq hl => ho.block q hl (fun e => by injection e with e; omega)) ho.size, h.hb, h.hB, h.gb, h.mb⟩
theorem Nb.mark (h : Nb l a c g gm B X w0 iv0 b none a5 ps cells rc w iv o L) (hb : Below w.heap.size w w') (hf : ∀ q, pa = some ⟨q, 0, none⟩ → w.heap.size ≤ q ∧ q < w'.heap.size) : Nb l a c g gm B X w0 iv0 b pa a5 ps cells rc w' iv o L := by
  have k := h.below hb
  refine ⟨⟨k.te.box, k.te.map, ?_, ?_, ?_, k.te.len, k.te.met, k.te.gX.imp id (fun e => e.imp id (fun e => e.imp id (fun e => by cases e))), k.te.mX.imp id (fun e => e.imp id (fun e => e.imp id (fun e => by cases e))), k.te.ne, k.te.rows, k.te.hB⟩, k.box, k.rbox, k.only, k.own, k.rows, k.hb, k.hB, k.gb, k.mb⟩
  · refine OwnG.below (OwnG.mono h.te.own (fun q hq hl => ⟨hq.1, fun e => ?_⟩)) hb
    rcases e with e | e | e | e
    · exact hq.2 (.inl e)
    · exact hq.2 (.inr (.inl e))
    · exact hq.2 (.inr (.inr (.inl e)))
    · have := (hf q e).1; omega
  · intro q hq e
    rcases e with e | e | e | e
    · exact h.te.nx q hq (.inl e)
    · exact h.te.nx q hq (.inr (.inl e))
    · exact h.te.nx q hq (.inr (.inr (.inl e)))
    · have := (hf q e).1
      have := (h.te.own.lt q hq).2
      omega
  · intro q e
    rcases e with e | e | e | e
    · exact k.te.xlt q (.inl e)
    · exact k.te.xlt q (.inr (.inl e))
    · exact k.te.xlt q (.inr (.inr (.inl e)))
    · exact (hf q e).2
theorem Nb.call (h : Nb l a c g gm B X w0 iv0 b pa a5 ps cells rc w iv o L) (hte : Te l a c g gm B (fun q => X q ∨ q = b ∨ q = b + 1 ∨ pa = some ⟨q, 0, none⟩) w' iv' o' L') (hop : OnlyP g gm iv w w') (hov : ∀ k, iv'.ownBlock = some k → iv.ownBlock = some k ∨ w.heap.size ≤ k) : Nb l a c g gm B X w0 iv0 b pa a5 ps cells rc w' iv' o' L' := by
  have hgB := h.gb
  have hmB := h.mb
  have hB := h.hB
  exact ⟨hte, hop.box h.box (by omega) (by omega) (fun e => h.te.nx b e (.inr (.inl rfl))), hop.box h.rbox (by omega) (by omega) (fun e => h.te.nx (b + 1) e (.inr (.inr (.inl rfl)))), h.only.trans hop h.own, fun k hk => by
    rcases hov k hk with h1 | h1
    · exact h.own k h1
    · exact .inr (Nat.le_trans h.only.size h1), hop.rows h.rows h.te.far, h.hb, h.hB, h.gb, h.mb⟩
theorem Nb.callP {pb : Nat} {arr : Array Value} (h : Nb l a c g gm B X w0 iv0 b (some ⟨pb, 0, none⟩) a5 ps cells rc w iv o L) (hpb : b + 1 < pb) (hx : Box w pb 107 arr) (hop : OnlyP g gm iv w w') : Box w' pb 107 arr := by
  have hgB := h.gb
  have hmB := h.mb
  have hB := h.hB
  exact hop.box hx (by omega) (by omega) (fun e => h.te.nx pb e (.inr (.inr (.inr rfl))))
end
theorem box6t {w : World} {g : Nat} {t : TypeId} {c0 c1 c2 c3 c4 c5 : Value} (h : Box w g t #[c0, c1, c2, c3, c4, c5]) : w.cell? ⟨g, 0, none⟩ = some c0 ∧ w.cell? ⟨g, 1, none⟩ = some c1 ∧ w.cell? ⟨g, 2, none⟩ = some c2 ∧ w.cell? ⟨g, 3, none⟩ = some c3 ∧ w.cell? ⟨g, 4, none⟩ = some c4 ∧ w.cell? ⟨g, 5, none⟩ = some c5 := ⟨h.cell 0, h.cell 1, h.cell 2, h.cell 3, h.cell 4, h.cell 5⟩
/-- The params' copies, so far. -/
def PAt (w : World) (b : Nat) (pa : Option Addr) (cp : Nat) (ps L : List ParamD) : Prop := (ps = [] ∧ pa = none ∧ cp = 0) ∨ (ps ≠ [] ∧ ∃ pb, pa = some ⟨pb, 0, none⟩ ∧ b + 1 < pb ∧ cp = ps.length ∧ Box w pb 107 (L.flatMap parCells).toArray)
/-- What is told of a call of object. -/
def PostOb (l : List TypeD) (a : Option Addr) (c g gm B : Nat) (X : Nat → Prop) (w : World) (iv : Value) (L : List TypeD) (o : List Int) (ob : ObjectD) (e : Ending) (w' : World) : Prop := ∃ iv' L' pa cp, e = .returned (.agg #[.string ob.fName, .int .i64 ob.fKind, .int .i64 ob.fMark, .int .i64 (numZ (visitO l o ob) ob.fType), .int .i64 ob.fValue, .slice pa ob.fParams.length cp]) ∧
  Te l a c g gm B (fun q => X q ∨ pa = some ⟨q, 0, none⟩) w' iv' (visitO l o ob) L' ∧ OnlyP g gm iv w w' ∧ (∀ k, iv'.ownBlock = some k → iv.ownBlock = some k ∨ w.heap.size ≤ k) ∧ Told l o (visitO l o ob) L L' ∧ ob.fParams.length ≤ cp ∧ (∀ q, pa = some ⟨q, 0, none⟩ → w.heap.size ≤ q) ∧ Rows paramS (fun q => pa = some ⟨q, 0, none⟩) w' pa (ob.fParams.map (transP (visitO l o ob)))
set_option maxHeartbeats 16000000 in
theorem iTellObject (l : List TypeD) (hnear : near l) (hsz : TypesSz l) (a : Option Addr) (c g gm B : Nat) (HC : CloneOk) (o : List Int) (ob : ObjectD) (hn : ob.fName.size ≤ 1048576) (hps : ∀ p ∈ ob.fParams, p.fName.size ≤ 1048576) (hpl : ob.fParams.length ≤ 1048576) (hty : ∀ y ∈ namesO ob, TypeNo l y)
    (X : Nat → Prop) (w : World) (iv : Value) (L : List TypeD) (a5 : Option Addr) (c5 : Nat) (hr5 : Rows paramS (fun q => q < B ∧ q ≠ g ∧ q ≠ gm) w a5 ob.fParams) (h : Te l a c g gm B X w iv o L) :
    Calls Tryz.prog 79 #[.pointer (some ⟨g, 0, none⟩), .agg #[.string ob.fName, .int .i64 ob.fKind, .int .i64 ob.fMark, .int .i64 ob.fType, .int .i64 ob.fValue, .slice a5 ob.fParams.length c5]] w (PostOb l a c g gm B X w iv L o ob) := by
  have NA := Lib.hid (fun o n (hn : TypeNo l n) => iNumber l hnear hsz a c g gm B HC (l.length + 1) o n (by omega) hn)
  have Hlead := Lib.hid hnear.leads
  have N0 := Lib.hid (show Nb l a c g gm B X w iv w.heap.size none a5 ob.fParams #[.string ob.fName, .int .i64 ob.fKind, .int .i64 ob.fMark, .int .i64 ob.fType, .int .i64 ob.fValue, .slice a5 ob.fParams.length c5] #[.string ⟨#[]⟩, .int .i64 0, .int .i64 0, .int .i64 0, .int .i64 0, .slice none 0 0] ((w.alloc (.cells #[.string ob.fName, .int .i64 ob.fKind, .int .i64 ob.fMark, .int .i64 ob.fType, .int .i64 ob.fValue, .slice a5 ob.fParams.length c5] 78)).alloc (.cells #[.string ⟨#[]⟩, .int .i64 0, .int .i64 0, .int .i64 0, .int .i64 0, .slice none 0 0] 78)) iv o L from
    ⟨((h.other (.cells #[.string ob.fName, .int .i64 ob.fKind, .int .i64 ob.fMark, .int .i64 ob.fType, .int .i64 ob.fValue, .slice a5 ob.fParams.length c5] 78)).other (.cells #[.string ⟨#[]⟩, .int .i64 0, .int .i64 0, .int .i64 0, .int .i64 0, .slice none 0 0] 78)).less (fun q hq => by
      have hs : (w.alloc (.cells #[.string ob.fName, .int .i64 ob.fKind, .int .i64 ob.fMark, .int .i64 ob.fType, .int .i64 ob.fValue, .slice a5 ob.fParams.length c5] 78)).heap.size = w.heap.size + 1 := by simp
      rw [hs]
      rcases hq with e | e | e | e
      · exact .inl (.inl e)
      · exact .inl (.inr e)
      · exact .inr e
      · cases e) (.inl h.gX) (.inl h.mX), (Box.new w _ _).alloc _, Box.new' _ _ _ (by simp), ((OnlyP.refl g gm iv w).alloc _).alloc _, fun _ e => .inl e, (hr5.below ((Below.refl _ _).alloc (Nat.le_refl _) _)).below ((Below.refl _ _).alloc (Nat.le_refl _) _), Nat.le_refl _, h.hB, h.box.lt, h.map.lt⟩)
  have TD0 := Lib.hid (Told.start (l := l) h.len h.met)
  have hBw := h.hB
  have HX := Lib.hid (And.intro h.gX h.mX)
  clear h hr5
  have x0 : _ = some (Value.string ob.fName) := N0.out.box.cell 0
  go_enter Tryz.func79, Tryz.ntmps79
  go_wp2_with fail
  obtain ⟨b, hb⟩ : ∃ z, z = w.heap.size := ⟨_, rfl⟩
  rw [← hb] at N0 x0 hBw
  have hbw : w.heap.size ≤ b := by omega
  rw [← hb]
  clear hb
  generalize (w.alloc (.cells #[.string ob.fName, .int .i64 ob.fKind, .int .i64 ob.fMark, .int .i64 ob.fType, .int .i64 ob.fValue, .slice a5 ob.fParams.length c5] 78)).alloc (.cells #[.string ⟨#[]⟩, .int .i64 0, .int .i64 0, .int .i64 0, .int .i64 0, .slice none 0 0] 78) = wq at *
  go_wp2_with fail
  refine (HC ob.fName _ hn).mono ?_
  rintro e w1 ⟨rfl, hb1⟩
  have N1 := Lib.hid (N0.out.below hb1)
  clear hb1 x0 N0
  have x0 : _ = some (Value.string ob.fName) := N1.out.box.cell 0
  have f0 := N1.out.box.free 0
  have N2 := Lib.hid (show Nb l a c g gm B X w iv b none a5 ob.fParams #[.string ob.fName, .int .i64 ob.fKind, .int .i64 ob.fMark, .int .i64 ob.fType, .int .i64 ob.fValue, .slice a5 ob.fParams.length c5] #[.string ⟨#[]⟩, .int .i64 0, .int .i64 0, .int .i64 0, .int .i64 0, .slice none 0 0] (w1.setCell ⟨b, 0, none⟩ (.string ob.fName)) iv o L from N1.out.set 0 (.string ob.fName))
  have x3 : _ = some (Value.int .i64 ob.fType) := N2.out.box.cell 3
  clear N1
  go_wp2_with fail
  refine (NA.out o ob.fType (hty _ (by unfold namesO; simp)) _ _ _ _ N2.out.te).mono ?_
  rintro e w3 ⟨rfl, iv1, L1, hte, hop, hov, hll, hlk⟩
  have TD1 := Lib.hid (TD0.out.next Hlead.out (hty _ (by unfold namesO; simp)).or hte.len hlk)
  have N3 := Lib.hid (N2.out.call hte hop hov)
  clear hte hop hov hll hlk x3 x0 f0 N2
  obtain ⟨tz, htz⟩ : ∃ z, z = numZ (visitZ l o ob.fType) ob.fType := ⟨_, rfl⟩
  rw [← htz]
  have TZ := Lib.hid htz
  clear htz
  obtain ⟨o2, ho2⟩ : ∃ z, z = visitZ l o ob.fType := ⟨_, rfl⟩
  rw [← ho2] at N3 TD1 TZ
  have O2 := Lib.hid ho2
  clear ho2
  have x3 : _ = some (Value.int .i64 ob.fType) := N3.out.box.cell 3
  have f3 := N3.out.box.free 3
  have N4 := Lib.hid (show Nb l a c g gm B X w iv b none a5 ob.fParams #[.string ob.fName, .int .i64 ob.fKind, .int .i64 ob.fMark, .int .i64 tz, .int .i64 ob.fValue, .slice a5 ob.fParams.length c5] #[.string ⟨#[]⟩, .int .i64 0, .int .i64 0, .int .i64 0, .int .i64 0, .slice none 0 0] (w3.setCell ⟨b, 3, none⟩ (.int .i64 tz)) iv1 o2 L1 from N3.out.set 3 (.int .i64 tz))
  have x5 : _ = some (Value.slice a5 ob.fParams.length c5) := N4.out.box.cell 5
  clear N3
  go_wp2_with fail
  refine (iCopiedPs a5 c5 ob.fParams _ hpl N4.out.rows.any).mono ?_
  rintro e w5 ⟨pa, cp, rfl, hcop, hb5⟩
  have hbl := N4.out.rbox.lt
  have N5 := Lib.hid (N4.out.mark (pa := pa) hb5 (fun q hq => by
    rcases hcop with ⟨_, e, _⟩ | ⟨_, fb, e, h1, _, h2⟩
    · rw [e] at hq; cases hq
    · rw [e] at hq
      injection hq with hq
      injection hq with hq
      subst hq
      exact ⟨h1, h2.lt⟩))
  have x5' : _ = some (Value.slice a5 ob.fParams.length c5) := N5.out.box.cell 5
  have f5 := N5.out.box.free 5
  have N6 := Lib.hid (show Nb l a c g gm B X w iv b pa a5 ob.fParams #[.string ob.fName, .int .i64 ob.fKind, .int .i64 ob.fMark, .int .i64 tz, .int .i64 ob.fValue, .slice pa ob.fParams.length cp] #[.string ⟨#[]⟩, .int .i64 0, .int .i64 0, .int .i64 0, .int .i64 0, .slice none 0 0] (w5.setCell ⟨b, 5, none⟩ (.slice pa ob.fParams.length cp)) iv1 o2 L1 from N5.out.set 5 (.slice pa ob.fParams.length cp))
  have P6 := Lib.hid (show PAt (w5.setCell ⟨b, 5, none⟩ (.slice pa ob.fParams.length cp)) b pa cp ob.fParams ob.fParams from by
    rcases hcop with ⟨h1, h2, h3⟩ | ⟨h0, fb, h1, h2, h3, h4⟩
    · exact .inl ⟨h1, h2, h3⟩
    · exact .inr ⟨h0, fb, h1, by omega, h3, h4.only ((Only.refl b w5).set 5 _) (by omega)⟩)
  have x6 : _ = some (Value.slice pa ob.fParams.length cp) := N6.out.box.cell 5
  clear N4 N5 hcop hb5 x3 f3 hbl
  go_wp2_with fail
  go_loopw [23] (fun x wr => ∃ (i : Nat) (iv5 : Value) (L5 : List TypeD), x = .int .i64 i ∧ i ≤ ob.fParams.length ∧ Nb l a c g gm B X w iv b pa a5 ob.fParams #[.string ob.fName, .int .i64 ob.fKind, .int .i64 ob.fMark, .int .i64 tz, .int .i64 ob.fValue, .slice pa ob.fParams.length cp] #[.string ⟨#[]⟩, .int .i64 0, .int .i64 0, .int .i64 0, .int .i64 0, .slice none 0 0] wr iv5 (ordP l o2 ob.fParams i) L5 ∧ Told l o (ordP l o2 ob.fParams i) L L5 ∧ PAt wr b pa cp ob.fParams (halfP l o2 ob.fParams i)) (fun x _ => ob.fParams.length - (intOf x).toNat)
  case atStart => exact ⟨0, iv1, L1, rfl, by omega, N6.out, TD1.out, by rw [halfP_zero]; exact P6.out⟩
  case round =>
    clear x5 x5' f5 x6
    obtain ⟨i, iv5, L5, rfl, hi5, hN, hT, hP⟩ := hrel
    have NR := Lib.hid hN
    have TR := Lib.hid hT
    by_cases hlt : i < ob.fParams.length
    · rcases hP with ⟨h0, _, _⟩ | ⟨hne, pb, rfl, hpb, hcp, hbx⟩
      · rw [h0] at hlt; simp at hlt
      have HCP := Lib.hid hcp
      clear hcp
      have hpk := hty ob.fParams[i].fType (by unfold namesO; exact List.mem_cons_of_mem _ (List.mem_map_of_mem (List.getElem_mem hlt)))
      obtain ⟨a0, a1, a2⟩ := parA_get (halfP_at (l := l) (o := o2) hlt)
      have hti : ∀ f ∈ ob.fParams, TypeOr l f.fType := fun f hf => (hty f.fType (by unfold namesO; exact List.mem_cons_of_mem _ (List.mem_map_of_mem hf))).or
      have hlh : i < (halfP l o2 ob.fParams i).length := by rw [halfP_len hi5]; exact hlt
      have Hnx := Lib.hid (show ((halfP l o2 ob.fParams (i + 1)).flatMap parCells).toArray = ((halfP l o2 ob.fParams i).flatMap parCells).toArray.setIfInBounds (i * 3 + 2) (.int .i64 (numZ (visitZ l (ordP l o2 ob.fParams i) ob.fParams[i].fType) ob.fParams[i].fType)) from by
        rw [halfP_next TD1.out.met hti hlt, parA_set _ hlh]
        unfold transP
        dsimp only
        rw [setF_same a0, setF_same a1, ordP_next hlt])
      have HO := Lib.hid (ordP_next (l := l) (o := o2) hlt)
      have HPS := Lib.hid (hps _ (List.getElem_mem hlt))
      have HF := Lib.hid (fun W te => NA.out (ordP l o2 ob.fParams i) ob.fParams[i].fType hpk (fun q => X q ∨ q = b ∨ q = b + 1 ∨ (some ⟨pb, 0, none⟩ : Option Addr) = some ⟨q, 0, none⟩) W iv5 L5 te)
      have c0 := (hbx.cell (i * 3)).trans a0
      have c1 := (hbx.cell (i * 3 + 1)).trans a1
      have c2 := (hbx.cell (i * 3 + 2)).trans a2
      have E0 := Lib.hid a0
      have E2 := Lib.hid a2
      have HOR := Lib.hid hpk.or
      clear a1 a2 hti hlh hpk hN hT
      generalize ob.fParams[i] = p at *
      generalize ((halfP l o2 ob.fParams i).flatMap parCells).toArray = arr at *
      have HOW := Lib.hid (fun q (hq : iv5.ownBlock = some q) => (NR.out.te.own.lt q hq).2)
      have NB := Lib.hid (NR.out.below ((Below.refl wr.heap.size wr).alloc (Nat.le_refl _) (.cells #[.string p.fName, .bool p.fByVar, .int .i64 p.fType] 107)))
      have FB := Lib.hid (hbx.alloc (.cells #[.string p.fName, .bool p.fByVar, .int .i64 p.fType] 107))
      have YB := Lib.hid (Box.new wr 107 #[.string p.fName, .bool p.fByVar, .int .i64 p.fType])
      have hyf : wr.heap.size ≠ pb := by have := hbx.lt; omega
      have hyg : wr.heap.size ≠ g := by have := NR.out.te.box.lt; omega
      have hym : wr.heap.size ≠ gm := by have := NR.out.te.map.lt; omega
      have HA0 := Lib.hid (setF_same a0)
      clear hbx NR a0
      obtain ⟨nz, hnz⟩ : ∃ z, z = numZ (visitZ l (ordP l o2 ob.fParams i) p.fType) p.fType := ⟨_, rfl⟩
      rw [← hnz] at Hnx
      have HNZ := Lib.hid hnz
      clear hnz
      go_wp2_with fail
      generalize hyy : wr.heap.size = y at *
      generalize wr.alloc (.cells #[.string p.fName, .bool p.fByVar, .int .i64 p.fType] 107) = wq at *
      clear hyy c0 c1 c2
      --R7<
      refine wp_region_held_drew (S := fun w' => w'.cell? ⟨b, 5, none⟩ = some (.slice (some ⟨pb, 0, none⟩) ob.fParams.length cp) ∧ w'.cell? ⟨y, 0, none⟩ = some (.string p.fName)) (by kernel_rfl) ?_ (fun hHeld => ?_)
      · try dsimp only
        exact ⟨NB.out.box.cell 5, YB.out.cell 0⟩
      refine wpAnyH_take (i := 0) (oi := { dst := some 28, op := Op.fieldAddr 78 (Operand.tmp 3) 5, type := 0, pos := "l4_scope.go:267", after := #[], guard := none }) (v := .pointer (some ⟨b, 5, none⟩)) rfl (by kernel_rfl) (by kernel_rfl) (by kernel_rfl) (fun _ _ _ h => h) (Or.inl ⟨by rfl, ?_⟩) (by assumption) ?_
      · intro wS hSw
        try dsimp only at hSw
        go_simp
      try simp only [Act.put, List.setIfInBounds_toArray, List.set_cons_zero, List.set_cons_succ]
      refine wpAnyH_take (i := 1) (oi := { dst := some 29, op := Op.load 76 (Operand.tmp 28), type := 76, pos := "l4_scope.go:267", after := #[{ on := 0, ground := Ground.data }], guard := none }) (v := .slice (some ⟨pb, 0, none⟩) ob.fParams.length cp) rfl (by kernel_rfl) (by kernel_rfl) (by kernel_rfl) (fun _ _ _ h => h) (Or.inl ⟨by rfl, ?_⟩) (by assumption) ?_
      · intro wS hSw
        try dsimp only at hSw
        go_simp
      try simp only [Act.put, List.setIfInBounds_toArray, List.set_cons_zero, List.set_cons_succ]
      refine wpAnyH_take (i := 2) (oi := { dst := some 30, op := Op.move (Operand.tmp 5), type := 3, pos := "l4_scope.go:267", after := #[], guard := none }) (v := .int .i64 (i : Int)) rfl (by kernel_rfl) (by kernel_rfl) (by kernel_rfl) (fun _ _ _ h => h) (Or.inl ⟨by rfl, ?_⟩) (by assumption) ?_
      · intro wS hSw
        try dsimp only at hSw
        go_simp
      try simp only [Act.put, List.setIfInBounds_toArray, List.set_cons_zero, List.set_cons_succ]
      refine wpAnyH_take (i := 3) (oi := { dst := some 31, op := Op.fieldAddr 107 (Operand.tmp 6) 0, type := 0, pos := "l4_scope.go:267", after := #[], guard := none }) (v := .pointer (some ⟨y, 0, none⟩)) rfl (by kernel_rfl) (by kernel_rfl) (by kernel_rfl) (fun _ _ _ h => h) (Or.inl ⟨by rfl, ?_⟩) (by assumption) ?_
      · intro wS hSw
        try dsimp only at hSw
        go_simp
      try simp only [Act.put, List.setIfInBounds_toArray, List.set_cons_zero, List.set_cons_succ]
      refine wpAnyH_take (i := 4) (oi := { dst := some 32, op := Op.load 9 (Operand.tmp 31), type := 9, pos := "l4_scope.go:267", after := #[{ on := 3, ground := Ground.data }], guard := none }) (v := .string p.fName) rfl (by kernel_rfl) (by kernel_rfl) (by kernel_rfl) (fun _ _ _ h => h) (Or.inl ⟨by rfl, ?_⟩) (by assumption) ?_
      · intro wS hSw
        try dsimp only at hSw
        go_simp
      try simp only [Act.put, List.setIfInBounds_toArray, List.set_cons_zero, List.set_cons_succ]
      refine wpAnyH_ready (rs := [5]) (by kernel_rfl) (by simp) ?_
      refine AllReadyH.cons (o := { dst := some 33, op := Op.call { callee := Callee.value (Operand.func 80), args := #[Operand.tmp 32], argTypes := #[9] }, type := 9, pos := "l4_scope.go:267", after := #[{ on := 4, ground := Ground.data }], guard := none }) rfl (fun K hK => ?_) AllReadyH.nil
      go_simp
      go_at_call 80
      refine (HC _ _ HPS.out).mono ?_
      rintro e w5 ⟨rfl, hb5⟩
      have N5 := Lib.hid (NB.out.drew.below hb5)
      have F5 := Lib.hid ((FB.out.drewN 1).below hb5 FB.out.lt)
      have Y5 := Lib.hid ((YB.out.drewN 1).below hb5 YB.out.lt)
      clear hb5
      have u0 : _ = some (Value.string p.fName) := (F5.out.cell (i * 3)).trans E0.out
      have uf := F5.out.free (i * 3)
      refine hK.out _ _ ?_ (fun hHeld2 => ?_)
      · try dsimp only
        exact ⟨N5.out.box.cell 5, Y5.out.cell 0⟩
      clear hK K hHeld
      have hHeld := hHeld2
      clear hHeld2
      try simp only [Act.put, List.setIfInBounds_toArray, List.set_cons_zero, List.set_cons_succ]
      refine wpAnyH_take (i := 6) (oi := { dst := some 34, op := Op.indexAddr 76 (Operand.tmp 29) (Operand.tmp 30), type := 0, pos := "l4_scope.go:267", after := #[{ on := 1, ground := Ground.data }, { on := 2, ground := Ground.data }, { on := 0, ground := Ground.phase }, { on := 1, ground := Ground.phase }, { on := 2, ground := Ground.phase }, { on := 3, ground := Ground.phase }, { on := 4, ground := Ground.phase }, { on := 5, ground := Ground.phase }], guard := none }) (v := .pointer (some ⟨pb, i * 3, none⟩)) rfl (by kernel_rfl) (by kernel_rfl) (by kernel_rfl) (fun _ _ _ h => h) (Or.inl ⟨by rfl, ?_⟩) (by assumption) ?_
      · intro wS hSw
        try dsimp only at hSw
        go_simp
      try simp only [Act.put, List.setIfInBounds_toArray, List.set_cons_zero, List.set_cons_succ]
      refine wpAnyH_take (i := 7) (oi := { dst := some 35, op := Op.fieldAddr 107 (Operand.tmp 34) 0, type := 0, pos := "l4_scope.go:267", after := #[{ on := 6, ground := Ground.data }, { on := 0, ground := Ground.phase }, { on := 1, ground := Ground.phase }, { on := 2, ground := Ground.phase }, { on := 3, ground := Ground.phase }, { on := 4, ground := Ground.phase }, { on := 5, ground := Ground.phase }], guard := none }) (v := .pointer (some ⟨pb, i * 3, none⟩)) rfl (by kernel_rfl) (by kernel_rfl) (by kernel_rfl) (fun _ _ _ h => h) (Or.inl ⟨by rfl, ?_⟩) (by assumption) ?_
      · intro wS hSw
        try dsimp only at hSw
        go_simp
      try simp only [Act.put, List.setIfInBounds_toArray, List.set_cons_zero, List.set_cons_succ]
      refine wpAnyH_ready (rs := [8]) (by kernel_rfl) (by simp) ?_
      refine AllReadyH.cons (o := { dst := none, op := Op.store 9 (Operand.tmp 35) (Operand.tmp 33), type := 0, pos := "l4_scope.go:267", after := #[{ on := 7, ground := Ground.data }, { on := 5, ground := Ground.data }, { on := 5, ground := Ground.chain }, { on := 0, ground := Ground.phase }, { on := 1, ground := Ground.phase }, { on := 2, ground := Ground.phase }, { on := 3, ground := Ground.phase }, { on := 4, ground := Ground.phase }, { on := 5, ground := Ground.phase }], guard := none }) rfl (fun K hK => ?_) AllReadyH.nil
      go_simp
      refine hK.out _ _ ?_ (fun hHeld2 => ?_)
      · try dsimp only
        exact ⟨(N5.out.setP hpb _ _).box.cell 5, (Y5.out.only ((Only.refl pb w5).set (i * 3) _) hyf).cell 0⟩
      clear hK K hHeld
      have hHeld := hHeld2
      clear hHeld2
      try simp only [Act.put, List.setIfInBounds_toArray, List.set_cons_zero, List.set_cons_succ]
      refine wpAnyH_done (by kernel_rfl) ?_ _
      --R7>
      have N7 := Lib.hid (N5.out.setP hpb (i * 3) (.string p.fName))
      have F7 := Lib.hid (F5.out.set (i * 3) (.string p.fName))
      rw [HA0.out] at F7
      have Y7 := Lib.hid (Y5.out.only ((Only.refl pb w5).set (i * 3) (.string p.fName)) hyf)
      clear N5 F5 Y5 u0 uf
      go_wp2_with fail
      generalize w5.setCell ⟨pb, i * 3, none⟩ (.string p.fName) = w7 at *
      rw [← HNZ.out] at HF
      --R8<
      refine wp_region_held_drew (S := fun w' => w'.cell? ⟨b, 5, none⟩ = some (.slice (some ⟨pb, 0, none⟩) ob.fParams.length cp) ∧ w'.cell? ⟨y, 2, none⟩ = some (.int .i64 p.fType)) (by kernel_rfl) ?_ (fun hHeld => ?_)
      · try dsimp only
        exact ⟨N7.out.box.cell 5, Y7.out.cell 2⟩
      refine wpAnyH_take (i := 0) (oi := { dst := some 36, op := Op.fieldAddr 78 (Operand.tmp 3) 5, type := 0, pos := "l4_scope.go:268", after := #[], guard := none }) (v := .pointer (some ⟨b, 5, none⟩)) rfl (by kernel_rfl) (by kernel_rfl) (by kernel_rfl) (fun _ _ _ h => h) (Or.inl ⟨by rfl, ?_⟩) (by assumption) ?_
      · intro wS hSw
        try dsimp only at hSw
        go_simp
      try simp only [Act.put, List.setIfInBounds_toArray, List.set_cons_zero, List.set_cons_succ]
      refine wpAnyH_take (i := 1) (oi := { dst := some 37, op := Op.load 76 (Operand.tmp 36), type := 76, pos := "l4_scope.go:268", after := #[{ on := 0, ground := Ground.data }], guard := none }) (v := .slice (some ⟨pb, 0, none⟩) ob.fParams.length cp) rfl (by kernel_rfl) (by kernel_rfl) (by kernel_rfl) (fun _ _ _ h => h) (Or.inl ⟨by rfl, ?_⟩) (by assumption) ?_
      · intro wS hSw
        try dsimp only at hSw
        go_simp
      try simp only [Act.put, List.setIfInBounds_toArray, List.set_cons_zero, List.set_cons_succ]
      refine wpAnyH_take (i := 2) (oi := { dst := some 38, op := Op.move (Operand.tmp 5), type := 3, pos := "l4_scope.go:268", after := #[], guard := none }) (v := .int .i64 (i : Int)) rfl (by kernel_rfl) (by kernel_rfl) (by kernel_rfl) (fun _ _ _ h => h) (Or.inl ⟨by rfl, ?_⟩) (by assumption) ?_
      · intro wS hSw
        try dsimp only at hSw
        go_simp
      try simp only [Act.put, List.setIfInBounds_toArray, List.set_cons_zero, List.set_cons_succ]
      refine wpAnyH_take (i := 3) (oi := { dst := some 39, op := Op.move (Operand.tmp 0), type := 153, pos := "l4_scope.go:268", after := #[], guard := none }) (v := .pointer (some ⟨g, 0, none⟩)) rfl (by kernel_rfl) (by kernel_rfl) (by kernel_rfl) (fun _ _ _ h => h) (Or.inl ⟨by rfl, ?_⟩) (by assumption) ?_
      · intro wS hSw
        try dsimp only at hSw
        go_simp
      try simp only [Act.put, List.setIfInBounds_toArray, List.set_cons_zero, List.set_cons_succ]
      refine wpAnyH_take (i := 4) (oi := { dst := some 40, op := Op.fieldAddr 107 (Operand.tmp 6) 2, type := 0, pos := "l4_scope.go:268", after := #[], guard := none }) (v := .pointer (some ⟨y, 2, none⟩)) rfl (by kernel_rfl) (by kernel_rfl) (by kernel_rfl) (fun _ _ _ h => h) (Or.inl ⟨by rfl, ?_⟩) (by assumption) ?_
      · intro wS hSw
        try dsimp only at hSw
        go_simp
      try simp only [Act.put, List.setIfInBounds_toArray, List.set_cons_zero, List.set_cons_succ]
      refine wpAnyH_take (i := 5) (oi := { dst := some 41, op := Op.load 3 (Operand.tmp 40), type := 3, pos := "l4_scope.go:268", after := #[{ on := 4, ground := Ground.data }], guard := none }) (v := .int .i64 p.fType) rfl (by kernel_rfl) (by kernel_rfl) (by kernel_rfl) (fun _ _ _ h => h) (Or.inl ⟨by rfl, ?_⟩) (by assumption) ?_
      · intro wS hSw
        try dsimp only at hSw
        go_simp
      try simp only [Act.put, List.setIfInBounds_toArray, List.set_cons_zero, List.set_cons_succ]
      refine wpAnyH_ready (rs := [6]) (by kernel_rfl) (by simp) ?_
      refine AllReadyH.cons (o := { dst := some 42, op := Op.call { callee := Callee.value (Operand.func 122), args := #[Operand.tmp 39, Operand.tmp 41], argTypes := #[153, 3] }, type := 3, pos := "l4_scope.go:268", after := #[{ on := 3, ground := Ground.data }, { on := 5, ground := Ground.data }], guard := none }) rfl (fun K hK => ?_) AllReadyH.nil
      go_simp
      go_at_call 122
      refine (HF.out _ N7.out.drew.te).mono ?_
      rintro e w8 ⟨rfl, iv6, L6, hte6, hop6, hov6, hll6, hlk6⟩
      have N8 := Lib.hid (N7.out.drew.call hte6 hop6 hov6)
      have F8 := Lib.hid (N7.out.drew.callP hpb (F7.out.drewN 1) hop6)
      have Y8 := Lib.hid (hop6.box (Y7.out.drewN 1) hyg hym (fun e => by have := HOW.out y e; omega))
      have K8 := Lib.hid hlk6
      have hl8 := hte6.len
      clear hte6 hop6 hov6 hll6 hlk6
      have u2 : _ = some (Value.int .i64 p.fType) := (F8.out.cell (i * 3 + 2)).trans E2.out
      have uf2 := F8.out.free (i * 3 + 2)
      refine hK.out _ _ ?_ (fun hHeld2 => ?_)
      · try dsimp only
        exact ⟨N8.out.box.cell 5, Y8.out.cell 2⟩
      clear hK K hHeld
      have hHeld := hHeld2
      clear hHeld2
      try simp only [Act.put, List.setIfInBounds_toArray, List.set_cons_zero, List.set_cons_succ]
      refine wpAnyH_take (i := 7) (oi := { dst := some 43, op := Op.indexAddr 76 (Operand.tmp 37) (Operand.tmp 38), type := 0, pos := "l4_scope.go:268", after := #[{ on := 1, ground := Ground.data }, { on := 2, ground := Ground.data }, { on := 0, ground := Ground.phase }, { on := 1, ground := Ground.phase }, { on := 2, ground := Ground.phase }, { on := 3, ground := Ground.phase }, { on := 4, ground := Ground.phase }, { on := 5, ground := Ground.phase }, { on := 6, ground := Ground.phase }], guard := none }) (v := .pointer (some ⟨pb, i * 3, none⟩)) rfl (by kernel_rfl) (by kernel_rfl) (by kernel_rfl) (fun _ _ _ h => h) (Or.inl ⟨by rfl, ?_⟩) (by assumption) ?_
      · intro wS hSw
        try dsimp only at hSw
        go_simp
      try simp only [Act.put, List.setIfInBounds_toArray, List.set_cons_zero, List.set_cons_succ]
      refine wpAnyH_take (i := 8) (oi := { dst := some 44, op := Op.fieldAddr 107 (Operand.tmp 43) 2, type := 0, pos := "l4_scope.go:268", after := #[{ on := 7, ground := Ground.data }, { on := 0, ground := Ground.phase }, { on := 1, ground := Ground.phase }, { on := 2, ground := Ground.phase }, { on := 3, ground := Ground.phase }, { on := 4, ground := Ground.phase }, { on := 5, ground := Ground.phase }, { on := 6, ground := Ground.phase }], guard := none }) (v := .pointer (some ⟨pb, i * 3 + 2, none⟩)) rfl (by kernel_rfl) (by kernel_rfl) (by kernel_rfl) (fun _ _ _ h => h) (Or.inl ⟨by rfl, ?_⟩) (by assumption) ?_
      · intro wS hSw
        try dsimp only at hSw
        go_simp
      try simp only [Act.put, List.setIfInBounds_toArray, List.set_cons_zero, List.set_cons_succ]
      refine wpAnyH_ready (rs := [9]) (by kernel_rfl) (by simp) ?_
      refine AllReadyH.cons (o := { dst := none, op := Op.store 3 (Operand.tmp 44) (Operand.tmp 42), type := 0, pos := "l4_scope.go:268", after := #[{ on := 8, ground := Ground.data }, { on := 6, ground := Ground.data }, { on := 6, ground := Ground.chain }, { on := 0, ground := Ground.phase }, { on := 1, ground := Ground.phase }, { on := 2, ground := Ground.phase }, { on := 3, ground := Ground.phase }, { on := 4, ground := Ground.phase }, { on := 5, ground := Ground.phase }, { on := 6, ground := Ground.phase }], guard := none }) rfl (fun K hK => ?_) AllReadyH.nil
      go_simp
      refine hK.out _ _ ?_ (fun hHeld2 => ?_)
      · try dsimp only
        exact ⟨(N8.out.setP hpb _ _).box.cell 5, (Y8.out.only ((Only.refl pb w8).set (i * 3 + 2) _) hyf).cell 2⟩
      clear hK K hHeld
      have hHeld := hHeld2
      clear hHeld2
      try simp only [Act.put, List.setIfInBounds_toArray, List.set_cons_zero, List.set_cons_succ]
      refine wpAnyH_done (by kernel_rfl) ?_ _
      --R8>
      have N9 := Lib.hid (N8.out.setP hpb (i * 3 + 2) (.int .i64 nz))
      have F9 := Lib.hid (F8.out.set (i * 3 + 2) (.int .i64 nz))
      rw [← Hnx.out] at F9
      have T9 := Lib.hid (TR.out.next Hlead.out HOR.out hl8 K8.out)
      rw [← HO.out] at T9 N9
      go_wp2_with fail
      exact ⟨⟨i + 1, iv6, L6, by congr 1, by omega, N9.out, T9.out, .inr ⟨hne, pb, rfl, hpb, HCP.out, F9.out⟩⟩, by simp [intOf]; omega⟩
    · obtain rfl : i = ob.fParams.length := by omega
      have Hvis := Lib.hid (show visitO l o ob = ordP l o2 ob.fParams ob.fParams.length by rw [ordP_all, O2.out]; rfl)
      obtain ⟨o', ho'⟩ : ∃ z, z = ordP l o2 ob.fParams ob.fParams.length := ⟨_, rfl⟩
      have hgo : Goes o2 o' := by rw [ho', ordP_all]; exact (fold_goes (fun o n ho => visit_goes n ho) _ _ TD1.out.met).2
      have hbase : tz = numZ o' ob.fType := by
        rw [TZ.out]
        exact (hgo.num (by rw [O2.out]; exact visit_has TD0.out.met (hty _ (by unfold namesO; simp)).or)).symm
      have hall : halfP l o2 ob.fParams ob.fParams.length = ob.fParams.map (transP o') := by rw [halfP_all, ← ho']
      rw [hall] at hP
      rw [← ho'] at NR TR Hvis
      have HTZ := Lib.hid hbase
      clear hN hT hall hgo ho' hbase
      obtain ⟨m0, m1, m2, m3, m4, m5⟩ := box6t NR.out.box
      obtain ⟨z0, z1, z2, z3, z4, z5⟩ := box6t NR.out.rbox
      have zf := NR.out.rbox.free
      have hnb := NR.out.hb
      have hcp : ob.fParams.length ≤ cp ∧ (∀ q, pa = some ⟨q, 0, none⟩ → b + 1 < q) := by
        rcases hP with ⟨h0, h1, h2⟩ | ⟨_, pb, h1, h2, h3, _⟩
        · exact ⟨by rw [h0]; simp, fun q e => by rw [h1] at e; cases e⟩
        · refine ⟨by omega, fun q e => ?_⟩
          rw [h1] at e
          injection e with e
          injection e with e
          omega
      have HP := Lib.hid (show ∀ W, Only (b + 1) wr W → Rows paramS (fun q => pa = some ⟨q, 0, none⟩) W pa (ob.fParams.map (transP o')) from fun W hW => by
        rcases hP with ⟨h0, h1, _⟩ | ⟨_, pb, h1, h2, _, h4⟩
        · rw [h0, h1]; exact Rows.nil
        · rw [h1]; exact par_rowsQ (h4.only hW (by omega)) rfl)
      have HCP := Lib.hid hcp
      clear hP hcp
      go_wp2_with fail
      refine bodyPost_ret (results_one rfl Tryz.underlying78 rfl _ _ (b + 1) #[.string ob.fName, .int .i64 ob.fKind, .int .i64 ob.fMark, .int .i64 tz, .int .i64 ob.fValue, .slice pa ob.fParams.length cp] rfl 78 ?qbox 6 (by kernel_rfl) rfl) rfl ?_
      case qbox => exact (((((NR.out.rbox.set 0 _).set 1 _).set 2 _).set 3 _).set 4 _).set 5 _
      have hof : ∀ v0 v1 v2 v3 v4 v5, Only (b + 1) wr ((((((wr.setCell ⟨b + 1, 0, none⟩ v0).setCell ⟨b + 1, 1, none⟩ v1).setCell ⟨b + 1, 2, none⟩ v2).setCell ⟨b + 1, 3, none⟩ v3).setCell ⟨b + 1, 4, none⟩ v4).setCell ⟨b + 1, 5, none⟩ v5) := fun v0 v1 v2 v3 v4 v5 => ((((((Only.refl _ _).set 0 _).set 1 _).set 2 _).set 3 _).set 4 _).set 5 _
      have hB1 := NR.out.hB
      refine ⟨iv5, L5, pa, cp, by rw [Hvis.out, ← HTZ.out], ?_, NR.out.only.farT (hof _ _ _ _ _ _) (by omega), NR.out.own, by rw [Hvis.out]; exact TR.out, HCP.out.1, fun q hq => by have := HCP.out.2 q hq; omega, by rw [Hvis.out]; exact HP.out _ (hof _ _ _ _ _ _)⟩
      rw [Hvis.out]
      exact (NR.out.te.aside (hof _ _ _ _ _ _) (.inr (.inr (.inl rfl))) (by omega) (by have := NR.out.gb; omega) (by have := NR.out.mb; omega)).less (fun q hq => hq.imp id (fun e => .inr (.inr e))) (.inl HX.out.1) (.inl HX.out.2)
end Go.Proofs.YtaccifjkeblhpaaGreat
