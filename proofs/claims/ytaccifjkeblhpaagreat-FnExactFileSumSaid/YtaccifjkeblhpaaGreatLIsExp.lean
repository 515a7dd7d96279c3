
/-
  What is proved: the program's exported: what lies where it begins; the state of its telling; the contract of the program's exported; the contract of the program's IsExport, and the walk of the law FnExactIsExport. No condition beside what each theorem states.
-/
import Derived.Test.YtaccifjkeblhpaaGreatTellM
import Derived.Test.YtaccifjkeblhpaaGreatSIsExp
import Derived.Test.YtaccifjkeblhpaaGreatSameParts
import Derived.Test.YtaccifjkeblhpaaGreatMkType
import Derived.Test.YtaccifjkeblhpaaGreatSameFuncs
import Derived.Test.YtaccifjkeblhpaaGreatOpenScope
import Derived.Deep.RegionHeld3
namespace Go.Proofs.YtaccifjkeblhpaaGreat
open Go.ChangeShapes Go.WideShapes Go.ChangeAt Go.RowKit Go.Maps
set_option maxRecDepth 100000

theorem types_sz {l : List TypeD} (h : ∀ t ∈ l, t.wt ≤ 1048576) : TypesSz l := fun t ht => by
  have h1 := h t ht
  unfold TypeD.wt wtL at h1
  refine ⟨by omega, by omega, by omega, fun f hf => ?_⟩
  have h2 := wt_mem FieldD.wt hf
  unfold FieldD.wt at h1 h2
  omega
theorem obs_no {s : ScopeD} (h : scopeP s) : ∀ ob ∈ s.fObjects, ∀ y ∈ namesO ob, TypeNo s.fTypes y := fun ob hob => by
  have h3 := h.2.2.1.1.three
  have ho := h.2.2.2.1.2.1 ob hob
  have one : ∀ y : Int, -1 ≤ y → y < (s.fTypes.length : Int) → TypeNo s.fTypes y := fun y y0 y1 => by
    by_cases hy : y = -1
    · exact .inl hy
    · obtain ⟨k, rfl⟩ := Int.eq_ofNat_of_zero_le (show 0 ≤ y by omega)
      exact .inr ⟨k, rfl, by omega⟩
  rcases ho.2.2 with ⟨_, q1, _, q3⟩ | ⟨_, q1, _, q3⟩ | ⟨_, q1, _, q3⟩
  · have hp : ob.fParams = [] := List.eq_nil_of_length_eq_zero q3
    intro y hy
    unfold namesO at hy
    rw [hp] at hy
    rw [List.mem_singleton.1 hy]
    exact one _ (by omega) (by omega)
  · have hp : ob.fParams = [] := List.eq_nil_of_length_eq_zero q3
    intro y hy
    unfold namesO at hy
    rw [hp] at hy
    rw [List.mem_singleton.1 hy]
    exact one _ (by omega) (by omega)
  · intro y hy
    unfold namesO at hy
    rcases List.mem_cons.1 hy with rfl | hy
    · exact one _ q1.1 q1.2
    · obtain ⟨p, hp, rfl⟩ := List.mem_map.1 hy
      have h2 := q3.2.1 p hp
      unfold parTyped at h2
      exact one _ (by omega) (by omega)
theorem bytes_none {b : ByteArray} (h : b.size = 0) : b = ⟨#[]⟩ := by
  apply ByteArray.ext
  exact Array.eq_empty_of_size_eq_zero h
theorem base_told {l : List TypeD} (hb : baseOk l) (o : List Int) {k : Nat} (hk : k < 3) : baseD[k]? = some (transT o (typeZat l (k : Int))) := by
  have hkl : k < l.length := by have := hb.1; omega
  obtain ⟨h1, h2, h3, h4, h5, h6⟩ := hb.2 k hkl hk
  rw [typeZat_in hkl]
  generalize l[k] = t at *
  obtain ⟨kd, lg, bs, fs, ow, nm⟩ := t
  dsimp only at h1 h2 h3 h4 h5 h6
  obtain rfl := List.eq_nil_of_length_eq_zero h4
  obtain rfl := bytes_none h5
  subst h1 h2 h3 h6
  rcases (show k = 0 ∨ k = 1 ∨ k = 2 by omega) with rfl | rfl | rfl <;> rfl
theorem table_of {l : List TypeD} {o : List Int} {L : List TypeD} (hb : baseOk l) (T : Told l [0, 1, 2] o baseD L) : L = tableZ l o := by
  have hg := T.goes
  apply List.ext_getElem?
  intro k
  by_cases hk : k < o.length
  · have e : (tableZ l o)[k]? = some (transT o (typeZat l (o.getD k 0))) := by
      unfold tableZ
      simp [List.getD, hk]
    rw [e]
    by_cases hk3 : k < 3
    · rw [T.low k hk3, hg.getD (show k < [(0 : Int), 1, 2].length from hk3), base_told hb o hk3]
      rcases (show k = 0 ∨ k = 1 ∨ k = 2 by omega) with rfl | rfl | rfl <;> rfl
    · exact T.high k (by simp; omega) hk
  · rw [List.getElem?_eq_none (by rw [T.len]; omega), List.getElem?_eq_none (by unfold tableZ; simp; omega)]
/-- The first three types, in a row of one's own. -/
theorem base_ownG {w : World} {g B : Nat} (P : Nat → Prop) (h : Box w g 72 baseA) (hB : B ≤ g) : OwnG typeS 72 B P w (.slice (some ⟨g, 0, none⟩) 3 3) baseD := by
  refine .inr ⟨g, 3, baseA, rfl, hB, h, Nat.le_refl _, by unfold maxLen; decide, rfl, fun i hi _ => ?_⟩
  have hi3 : i < 3 := hi
  have key : ∀ (cs : List Value) (d : TypeD), typeAt (fun q => P q ∧ q ≠ g) w cs d → (∀ j, j < 6 → baseA[0 + i * 6 + j]? = cs[j]?) → d = baseD[i] → ∃ cs, typeS.At (fun q => P q ∧ q ≠ g) w cs baseD[i] ∧ ∀ j, j < typeS.n → baseA[0 + i * typeS.n + j]? = cs[j]? := fun cs d h1 h2 h3 => ⟨cs, h3 ▸ h1, h2⟩
  rcases (show i = 0 ∨ i = 1 ∨ i = 2 by omega) with rfl | rfl | rfl
  · exact key [.int .i64 1, .int .i64 0, .int .i64 (-1), .slice none 0 0, .string ⟨#[]⟩, .string bINT] ⟨1, 0, -1, [], ⟨#[]⟩, bINT⟩ ⟨none, 0, rfl, Rows.nil, Nat.le_refl _⟩ (fun j hj => by match j, hj with | 0, _ | 1, _ | 2, _ | 3, _ | 4, _ | 5, _ => rfl) rfl
  · exact key [.int .i64 2, .int .i64 0, .int .i64 (-1), .slice none 0 0, .string ⟨#[]⟩, .string bBOOL] ⟨2, 0, -1, [], ⟨#[]⟩, bBOOL⟩ ⟨none, 0, rfl, Rows.nil, Nat.le_refl _⟩ (fun j hj => by match j, hj with | 0, _ | 1, _ | 2, _ | 3, _ | 4, _ | 5, _ => rfl) rfl
  · exact key [.int .i64 3, .int .i64 0, .int .i64 (-1), .slice none 0 0, .string ⟨#[]⟩, .string bCHAR] ⟨3, 0, -1, [], ⟨#[]⟩, bCHAR⟩ ⟨none, 0, rfl, Rows.nil, Nat.le_refl _⟩ (fun j hj => by match j, hj with | 0, _ | 1, _ | 2, _ | 3, _ | 4, _ | 5, _ => rfl) rfl
/-- What lies where the telling begins: g the telling, gm its map, ib the first three types, n and n + 1 the scope's copy and the answer. -/
structure Made (w0 : World) (n : Nat) (ts : Value) (sc zc : Array Value) (g gm ib : Nat) (W : World) : Prop where
  gb : Box W g 116 #[ts, .slice (some ⟨ib, 0, none⟩) 3 3, .map (some gm)]
  mb : KMap (numZ [0, 1, 2]) W gm []
  tb : Box W ib 72 baseA
  sb : Box W n 33 sc
  zb : Box W (n + 1) 33 zc
  lg : n + 1 < g
  lm : n + 1 < gm
  li : n + 1 < ib
  e1 : g ≠ gm
  e2 : g ≠ ib
  e3 : gm ≠ ib
  bel : Below n w0 W
theorem onceE {S G : Prop} (heavy : S) (rest : S → G) : G := rest heavy
/-- Objects' row is turned aside. -/
theorem Te.pushed {l : List TypeD} {a : Option Addr} {c g gm B : Nat} {X X' : Nat → Prop} {w w' : World} {iv v v' : Value} {o : List Int} {L : List TypeD} (h : Te l a c g gm B X w iv o L) (hg : w.grownBy w' v.ownBlock) (hv : ∀ q, v.ownBlock = some q → X q ∧ q ≠ g ∧ q ≠ gm ∧ B ≤ q)
    (hv' : ∀ q, v'.ownBlock = some q → v.ownBlock = some q ∨ (w.heap.size ≤ q ∧ q < w'.heap.size)) (hX : ∀ q, X' q → X q ∨ v'.ownBlock = some q) (gX : X' g) (mX : X' gm) : Te l a c g gm B X' w' iv o L := by
  have kp : ∀ q, q < w.heap.size → v.ownBlock ≠ some q → w'.heap[q]? = w.heap[q]? := fun q hq hn => hg.block q hq (fun e => hn e.symm)
  have hX2 : ∀ q, q < w.heap.size → X' q → X q := fun q hq hx => by
    rcases hX q hx with e | e
    · exact e
    · rcases hv' q e with e | e
      · exact (hv q e).1
      · omega
  refine ⟨(kp g h.box.lt (fun e => (hv g e).2.1 rfl)).trans h.box, h.map.block (kp gm h.map.lt (fun e => (hv gm e).2.2.1 rfl)), ?_, fun q hq hx => h.nx q hq (hX2 q (h.own.lt q hq).2 hx), fun q hq => ?_, h.len, h.met, gX, mX, h.ne, h.rows.keep (fun q hq hl => kp q hl (fun e => by have := (hv q e).2.2.2; omega)) hg.size, Nat.le_trans h.hB hg.size⟩
  · refine OwnG.mono (OwnG.keep (OwnG.mono (P' := fun q => (B ≤ q ∧ ¬ X q) ∧ q < w.heap.size) h.own (fun q hq hl => ⟨hq, hl⟩)) (fun q hq hl => kp q hl (fun e => ?_)) hg.size) (fun q hq _ => ⟨hq.1.1, fun hx => hq.1.2 (hX2 q hq.2 hx)⟩)
    rcases hq with h1 | h1
    · exact h1.1.2 (hv q e).1
    · exact h.nx q h1 (hv q e).1
  · rcases hX q hq with e | e
    · exact Nat.lt_of_lt_of_le (h.xlt q e) hg.size
    · rcases hv' q e with e | e
      · exact Nat.lt_of_lt_of_le (h.xlt q (hv q e).1) hg.size
      · exact e.2
/-- Blocks that the telling keeps clear of. -/
def XE (n g gm : Nat) (v : Value) (P : Nat → Prop) : Nat → Prop := fun q => (q = g ∨ q = gm ∨ q = n ∨ q = n + 1) ∨ v.ownBlock = some q ∨ P q
/-- The state of exported between two objects. -/
structure ExI (l : List TypeD) (a2 : Option Addr) (c2 : Nat) (w0 : World) (g gm m : Nat) (sc : Array Value) (P : Nat → Prop) (v : Value) (W : World) (iv : Value) (o : List Int) (L : List TypeD) (Lo : List ObjectD) : Prop where
  te : Te l a2 c2 g gm w0.heap.size (XE w0.heap.size g gm v P) W iv o L
  told : Told l [0, 1, 2] o baseD L
  own : OwnG objectS 78 m P W v Lo
  pm : ∀ q, P q → m ≤ q
  sb : Box W w0.heap.size 33 sc
  zb : Box W (w0.heap.size + 1) 33 #[.string ⟨#[]⟩, .slice none 0 0, .slice none 0 0, .slice none 0 0, .slice none 0 0]
  bel : Below w0.heap.size w0 W
  hm : m ≤ W.heap.size
  gM : g < m
  mM : gm < m
  nM : w0.heap.size + 1 < m
  gN : w0.heap.size + 1 < g
  mN : w0.heap.size + 1 < gm
  iN : ∀ q, iv.ownBlock = some q → w0.heap.size ≤ q
section
variable {l : List TypeD} {a2 : Option Addr} {c2 : Nat} {w0 : World} {g gm m : Nat} {sc : Array Value} {P : Nat → Prop} {v : Value} {W W' : World} {iv iv' : Value} {o o' : List Int} {L L' : List TypeD} {Lo : List ObjectD}
theorem ExI.below (h : ExI l a2 c2 w0 g gm m sc P v W iv o L Lo) (hb : Below W.heap.size W W') : ExI l a2 c2 w0 g gm m sc P v W' iv o L Lo :=
  ⟨h.te.below hb, h.told, h.own.below hb, h.pm, h.sb.below hb h.sb.lt, h.zb.below hb h.zb.lt, h.bel.trans (hb.mono h.bel.size), Nat.le_trans h.hm hb.size, h.gM, h.mM, h.nM, h.gN, h.mN, h.iN⟩
/-- An object was told. -/
theorem ExI.call {pa : Option Addr} (h : ExI l a2 c2 w0 g gm m sc P v W iv o L Lo) (hte : Te l a2 c2 g gm w0.heap.size (fun q => XE w0.heap.size g gm v P q ∨ pa = some ⟨q, 0, none⟩) W' iv' o' L') (hop : OnlyP g gm iv W W') (hov : ∀ k, iv'.ownBlock = some k → iv.ownBlock = some k ∨ W.heap.size ≤ k)
    (hT : Told l [0, 1, 2] o' baseD L') (hpa : ∀ q, pa = some ⟨q, 0, none⟩ → W.heap.size ≤ q) : ExI l a2 c2 w0 g gm m sc (fun q => P q ∨ pa = some ⟨q, 0, none⟩) v W' iv' o' L' Lo := by
  have hgM := h.gM
  have hmM := h.mM
  have hnM := h.nM
  have hgN := h.gN
  have hmN := h.mN
  have hW := h.bel.size
  have hlt := OwnG.lt h.own
  refine ⟨hte.less (fun q hq => ?_) (.inl (.inl rfl)) (.inl (.inr (.inl rfl))), hT, OwnG.mono (OwnG.keep h.own (fun q hq hl => hop.block hl (fun e => ?_) (fun e => ?_) (fun e => ?_)) hop.size) (fun q hq _ => .inl hq), fun q hq => ?_, hop.box h.sb (fun e => ?_) (fun e => ?_) (fun e => ?_), hop.box h.zb (fun e => ?_) (fun e => ?_) (fun e => ?_), ?_, Nat.le_trans h.hm hop.size, h.gM, h.mM, h.nM, h.gN, h.mN, fun q hq => ?_⟩
  · rcases hq with e | e | e | e
    · exact .inl (.inl e)
    · exact .inl (.inr (.inl e))
    · exact .inl (.inr (.inr e))
    · exact .inr e
  · rcases hq with e2 | e2
    · have := h.pm q e2; omega
    · have := hlt q e2; omega
  · rcases hq with e2 | e2
    · have := h.pm q e2; omega
    · have := hlt q e2; omega
  · rcases hq with e2 | e2
    · exact h.te.nx q e (.inr (.inr e2))
    · exact h.te.nx q e (.inr (.inl e2))
  · rcases hq with e2 | e2
    · exact h.pm q e2
    · exact Nat.le_trans h.hm (hpa q e2)
  · omega
  · omega
  · exact h.te.nx _ e (.inl (.inr (.inr (.inl rfl))))
  · omega
  · omega
  · exact h.te.nx _ e (.inl (.inr (.inr (.inr rfl))))
  · exact ⟨hop.1.trans h.bel.os, hop.2.1.trans h.bel.tape, hop.2.2.1.trans h.bel.output, Nat.le_trans hW hop.size, fun q hq => (hop.block (by omega) (by omega) (by omega) (fun e => by have := h.iN q e; omega)).trans (h.bel.block q hq)⟩
  · rcases hov q hq with e | e
    · exact h.iN q e
    · omega
/-- An object is laid behind those that were told. -/
theorem ExI.push {v' : Value} {x : ObjectD} (h : ExI l a2 c2 w0 g gm m sc P v W iv o L Lo) (hown : OwnG objectS 78 m P W' v' (Lo ++ [x])) (hg : W.grownBy W' v.ownBlock) (hv : v'.ownBlock = v.ownBlock ∨ v'.ownBlock = some W.heap.size) : ExI l a2 c2 w0 g gm m sc P v' W' iv o L (Lo ++ [x]) := by
  have hgM := h.gM
  have hmM := h.mM
  have hnM := h.nM
  have hlt := OwnG.lt h.own
  have hlt' := OwnG.lt hown
  have hW := h.bel.size
  refine ⟨h.te.pushed (v' := v') hg (fun q hq => ⟨.inr (.inl hq), by have := hlt q hq; omega, by have := hlt q hq; omega, by have := hlt q hq; omega⟩) (fun q hq => ?_) (fun q hq => ?_) (.inl (.inl rfl)) (.inl (.inr (.inl rfl))), h.told, hown, h.pm, ?_, ?_, ?_, Nat.le_trans h.hm hg.size, h.gM, h.mM, h.nM, h.gN, h.mN, h.iN⟩
  · rcases hv with e | e
    · exact .inl (e ▸ hq)
    · exact .inr ⟨by rw [e] at hq; injection hq with hq; omega, (hlt' q hq).2⟩
  · rcases hq with e | e | e
    · exact .inl (.inl e)
    · exact .inr e
    · exact .inl (.inr (.inr e))
  · exact (hg.block _ h.sb.lt (fun e => by have := hlt _ e.symm; omega)).trans h.sb
  · exact (hg.block _ h.zb.lt (fun e => by have := hlt _ e.symm; omega)).trans h.zb
  · exact ⟨hg.os.trans h.bel.os, hg.tape.trans h.bel.tape, hg.output.trans h.bel.output, Nat.le_trans hW hg.size, fun q hq => (hg.block q (by omega) (fun e => by have := hlt q e.symm; omega)).trans (h.bel.block q hq)⟩
end
/-- What was told of objects, by the order behind one more. -/
theorem told_next {l : List TypeD} {os : List ObjectD} (hb : baseOk l) (hk : ∀ ob ∈ os, ∀ y ∈ namesO ob, TypeOr l y) {k : Nat} (h : k < os.length) (hs : os[k].fMark ≠ 0) :
    (shownO (os.take (k + 1))).map (transO (orderZ l (os.take (k + 1)))) = (shownO (os.take k)).map (transO (orderZ l (os.take k))) ++ [transO (orderZ l (os.take (k + 1))) os[k]] := by
  have hm := (base_order hb).2
  have hk' : ∀ ob ∈ shownO (os.take k), ∀ y ∈ namesO ob, TypeOr l y := fun ob ho => hk ob (List.mem_of_mem_take (List.mem_filter.1 ho).1)
  have hg : Goes (orderZ l (os.take k)) (orderZ l (os.take (k + 1))) := by
    rw [order_next h, if_pos hs]
    exact (visitO_goes _ (order_goes _ _ hm).1).2
  rw [shown_next h, if_pos hs, List.map_append]
  congr 1
  apply List.map_congr_left
  intro ob ho
  exact transO_goes hg (order_has _ _ hm hk' ob ho)
theorem Told.trans {l : List TypeD} {o1 o o' : List Int} {L1 L L' : List TypeD} (h : Told l o1 o L1 L) (h' : Told l o o' L L') : Told l o1 o' L1 L' := by
  have hgl := h.goes.len
  refine ⟨h'.len, h'.met, h.goes.trans h'.goes, h.closes.trans h'.closes h'.goes, fun k hk => ?_, fun k h1 h2 => ?_⟩
  · rw [h'.low k (by omega), h.low k hk]
  · by_cases hk : k < o.length
    · rw [h'.low k hk, h.high k h1 hk, h'.goes.getD hk]
      obtain ⟨j, hj, he, hj1, hj2⟩ := h.fresh h1 hk
      rw [he, typeZat_in hj, transT_goes h'.goes (h.closes j hj hj1 hj2)]
    · exact h'.high k (by omega) h2
set_option maxHeartbeats 4000000 in
theorem iIsShownE (nm : ByteArray) (mk : Int) (w : World) : Calls Tryz.prog 78 #[.agg #[.string nm, .int .i64 mk]] w fun e w' => e = .returned (.bool (decide (0 < mk))) ∧ Below w.heap.size w w' := by
  have HB := Lib.hid ((Below.refl w.heap.size w).alloc (Nat.le_refl _) (.cells #[.string nm, .int .i64 mk] 118))
  obtain ⟨v, hv⟩ : ∃ v, decide (0 < mk) = v := ⟨_, rfl⟩
  rw [hv]
  by_cases h : 0 < mk
  · have Hv := Lib.hid (show v = true by rw [← hv]; exact decide_eq_true h)
    clear hv
    go_enter Tryz.func78, Tryz.ntmps78
    go_wp2_with fail
    go_ret
    exact ⟨by rw [Hv.out]; rfl, HB.out⟩
  · have Hv := Lib.hid (show v = false by rw [← hv]; exact decide_eq_false h)
    clear hv
    go_enter Tryz.func78, Tryz.ntmps78
    go_wp2_with fail
    go_ret
    exact ⟨by rw [Hv.out]; rfl, HB.out⟩
theorem obj_sz {ob : ObjectD} (h : ob.wt ≤ 1048576) : ob.fName.size ≤ 1048576 ∧ (∀ p ∈ ob.fParams, p.fName.size ≤ 1048576) ∧ ob.fParams.length ≤ 1048576 := by
  unfold ObjectD.wt wtL at h
  refine ⟨by omega, fun p hp => ?_, by omega⟩
  have h2 := wt_mem ParamD.wt hp
  unfold ParamD.wt at h h2
  omega
theorem told_len {l : List TypeD} {os : List ObjectD} {k : Nat} : ((shownO (os.take k)).map (transO (orderZ l (os.take k)))).length ≤ k := by
  rw [List.length_map]
  have h := List.length_filter_le (fun o : ObjectD => decide (o.fMark ≠ 0)) (os.take k)
  have h2 : (os.take k).length ≤ k := by simp; omega
  exact Nat.le_trans h h2
end Go.Proofs.YtaccifjkeblhpaaGreat

namespace Go.Proofs.YtaccifjkeblhpaaGreat
open Go.ChangeShapes Go.WideShapes Go.ChangeAt Go.RowKit Go.Maps
set_option maxRecDepth 100000

abbrev ZS : Array Value := #[.string ⟨#[]⟩, .slice none 0 0, .slice none 0 0, .slice none 0 0, .slice none 0 0]
theorem made_of {w0 : World} {n g gm ib : Nat} {ts : Value} {sc zc : Array Value} {W : World} (h5 : Box W g 116 #[.slice none 0 0, .slice none 0 0, .map none]) (h3 : KMap (numZ [0, 1, 2]) W gm []) (h2 : Box W ib 72 baseA) (sb : Box W n 33 sc) (zb : Box W (n + 1) 33 zc) (bel : Below n w0 W)
    (l5 : n + 1 < g) (l3 : n + 1 < gm) (l2 : n + 1 < ib) (e1 : g ≠ gm) (e2 : g ≠ ib) (e3 : gm ≠ ib) :
    Made w0 n ts sc zc g gm ib (((W.setCell ⟨g, 0, none⟩ ts).setCell ⟨g, 1, none⟩ (.slice (some ⟨ib, 0, none⟩) 3 3)).setCell ⟨g, 2, none⟩ (.map (some gm))) := by
  have ho : Only g W (((W.setCell ⟨g, 0, none⟩ ts).setCell ⟨g, 1, none⟩ (.slice (some ⟨ib, 0, none⟩) 3 3)).setCell ⟨g, 2, none⟩ (.map (some gm))) := (((Only.refl _ _).set 0 _).set 1 _).set 2 _
  exact ⟨((h5.set 0 _).set 1 _).set 2 _, h3.block (ho.block gm h3.lt (fun e => by injection e with e; exact e1 e.symm)), h2.only ho (Ne.symm e2), sb.only ho (by omega), zb.only ho (by omega), l5, l3, l2, e1, e2, e3, ((bel.setCell (p := ⟨g, 0, none⟩) (by show n ≤ g; omega) _).setCell (p := ⟨g, 1, none⟩) (by show n ≤ g; omega) _).setCell (p := ⟨g, 2, none⟩) (by show n ≤ g; omega) _⟩

theorem fieldHead (nm : ByteArray) (mk kd vl wd : Int) (W : World) : (Instr.field 120 (.agg #[.string nm, .int .i64 mk, .int .i64 kd, .int .i64 vl, .int .i64 wd]) 0).run Tryz.prog W = .ok (.agg #[.string nm, .int .i64 mk]) W := by kernel_rfl
set_option maxHeartbeats 32000000 in
theorem iExported (s : ScopeD) (a1 a2 a3 a4 : Option Addr) (c1 c2 c3 c4 : Nat) (w : World) (hp : scopeP s) (K : ScopeK s) (hr : ScopeR Any w a1 a2 a3 a4 s) :
    Calls Tryz.prog 28 #[.agg (scopeC s a1 a2 a3 a4 c1 c2 c3 c4)] w (PostExp s.fName s.fTypes s.fObjects w) := by
  have hmm := @run_makeMap Tryz.prog
  have hnear := hp.2.2.1.1
  have hb3 := hnear.1
  have HP := Lib.hid hp
  have KK := Lib.hid K
  have hnm : s.fName.size ≤ 1048576 := by have := hp.1.2.1; omega
  have hbq : Below w.heap.size w ((w.alloc (.cells (scopeC s a1 a2 a3 a4 c1 c2 c3 c4) 33)).alloc (.cells ZS 33)) := ((Below.refl w.heap.size w).alloc (Nat.le_refl _) _).alloc (by simp) _
  have SB := Lib.hid ((Box.new w 33 (scopeC s a1 a2 a3 a4 c1 c2 c3 c4)).alloc (.cells ZS 33))
  have ZB := Lib.hid (Box.new' (w.alloc (.cells (scopeC s a1 a2 a3 a4 c1 c2 c3 c4) 33)) 33 ZS (g := w.heap.size + 1) (by simp))
  have BW := Lib.hid hbq
  have HR := Lib.hid hr
  have NR := Lib.hid hnear
  have B3 := Lib.hid hb3
  clear hbq hr hp K hnear hb3
  go_enter Tryz.func28, Tryz.ntmps28
  go_wp2_with fail
  generalize (w.alloc (.cells (scopeC s a1 a2 a3 a4 c1 c2 c3 c4) 33)).alloc (.cells ZS 33) = wq at *
  apply onceE
  case rest =>
    intro key0
    have key := Lib.hid key0
    clear key0
    --E1<
    refine wp_region_held_drew (S := fun w' => w'.cell? ⟨w.heap.size, 2, none⟩ = some (.slice a2 s.fTypes.length c2)) (by kernel_rfl) ?_ (fun hHeld => ?_)
    · exact SB.out.cell 2
    replace SB := Lib.hid (show Box wq.drew w.heap.size 33 (scopeC s a1 a2 a3 a4 c1 c2 c3 c4) from SB.out.drewN 1)
    replace ZB := Lib.hid (show Box wq.drew (w.heap.size + 1) 33 ZS from ZB.out.drewN 1)
    replace BW := Lib.hid (show Below w.heap.size w wq.drew from belowN BW.out 1)
    generalize wq.drew = wd at *
    refine wpAnyH_take (i := 0) (oi := { dst := some 8, op := Op.fieldAddr 33 (Operand.tmp 1) 2, type := 0, pos := "l4_scope.go:248", after := #[], guard := none }) (v := .pointer (some ⟨w.heap.size, 2, none⟩)) rfl (by kernel_rfl) (by kernel_rfl) (by kernel_rfl) (fun _ _ _ h => h) (Or.inl ⟨by rfl, ?_⟩) (by assumption) ?_
    · intro wS hSw
      try dsimp only at hSw
      go_simp
    try simp only [Act.put, List.setIfInBounds_toArray, List.set_cons_zero, List.set_cons_succ]
    refine wpAnyH_take (i := 1) (oi := { dst := some 9, op := Op.load 29 (Operand.tmp 8), type := 29, pos := "l4_scope.go:248", after := #[{ on := 0, ground := Ground.data }], guard := none }) (v := .slice a2 s.fTypes.length c2) rfl (by kernel_rfl) (by kernel_rfl) (by kernel_rfl) (fun _ _ _ h => h) (Or.inl ⟨by rfl, ?_⟩) (by assumption) ?_
    · intro wS hSw
      try dsimp only at hSw
      go_simp
    try simp only [Act.put, List.setIfInBounds_toArray, List.set_cons_zero, List.set_cons_succ]
    refine wpAnyH_ready (rs := [2, 3, 5]) (by kernel_rfl) (by simp) ?_
    refine AllReadyH.cons (o := { dst := some 10, op := Op.call { callee := Callee.value (Operand.func 76), args := #[], argTypes := #[] }, type := 29, pos := "l4_scope.go:248", after := #[], guard := none }) rfl (fun K hK => ?_) (AllReadyH.cons (o := { dst := some 11, op := Op.makeMap 114 none, type := 114, pos := "l4_scope.go:248", after := #[], guard := none }) rfl (fun K hK => ?_) (AllReadyH.cons (o := { dst := some 3, op := Op.alloc 116, type := 0, pos := "l4_scope.go:248", after := #[], guard := none }) rfl (fun K hK => ?_) AllReadyH.nil))
    · go_simp
      go_at_call 76
      refine (iBaseTypes _).mono ?_
      rintro e wn ⟨rfl, rfl⟩
      have L2 := Lib.hid (show w.heap.size + 1 < wd.heap.size from ZB.out.lt)
      have F2 := Lib.hid (Box.new wd 72 baseA)
      replace SB := Lib.hid (SB.out.alloc (.cells baseA 72))
      replace ZB := Lib.hid (ZB.out.alloc (.cells baseA 72))
      replace BW := Lib.hid (BW.out.alloc BW.out.size (.cells baseA 72))
      obtain ⟨ib, hx⟩ : ∃ z, z = wd.heap.size := ⟨_, rfl⟩
      rw [← hx] at F2 L2
      try rw [← hx]
      clear hx
      generalize wd.alloc (.cells baseA 72) = w1 at *
      refine hK.out _ _ ?_ (fun hHeld2 => ?_)
      · exact SB.out.cell 2
      clear hK K hHeld
      have hHeld := hHeld2
      clear hHeld2
      try simp only [Act.put, List.setIfInBounds_toArray, List.set_cons_zero, List.set_cons_succ]
      refine wpAnyH_ready (rs := [3, 5]) (by kernel_rfl) (by simp) ?_
      refine AllReadyH.cons (o := { dst := some 11, op := Op.makeMap 114 none, type := 114, pos := "l4_scope.go:248", after := #[], guard := none }) rfl (fun K hK => ?_) (AllReadyH.cons (o := { dst := some 3, op := Op.alloc 116, type := 0, pos := "l4_scope.go:248", after := #[], guard := none }) rfl (fun K hK => ?_) AllReadyH.nil)
      · go_simp
        have L3 := Lib.hid (show w.heap.size + 1 < w1.heap.size from ZB.out.lt)
        have D32 := Lib.hid (show w1.heap.size ≠ ib from by have := F2.out.lt; omega)
        have F3 := Lib.hid (KMap.made (numZ [0, 1, 2]) w1)
        replace F2 := Lib.hid (F2.out.alloc (.map #[] 0))
        replace SB := Lib.hid (SB.out.alloc (.map #[] 0))
        replace ZB := Lib.hid (ZB.out.alloc (.map #[] 0))
        replace BW := Lib.hid (BW.out.alloc BW.out.size (.map #[] 0))
        obtain ⟨gm, hx⟩ : ∃ z, z = w1.heap.size := ⟨_, rfl⟩
        rw [← hx] at F3 L3 D32
        try rw [← hx]
        clear hx
        generalize w1.alloc (.map #[] 0) = w2 at *
        refine hK.out _ _ ?_ (fun hHeld2 => ?_)
        · exact SB.out.cell 2
        clear hK K hHeld
        have hHeld := hHeld2
        clear hHeld2
        try simp only [Act.put, List.setIfInBounds_toArray, List.set_cons_zero, List.set_cons_succ]
        refine wpAnyH_take (i := 4) (oi := { dst := some 12, op := Op.build 116 #[(0, Operand.tmp 9), (1, Operand.tmp 10), (2, Operand.tmp 11)], type := 116, pos := "l4_scope.go:248", after := #[{ on := 1, ground := Ground.data }, { on := 2, ground := Ground.data }, { on := 3, ground := Ground.data }], guard := none }) (v := .agg #[.slice a2 s.fTypes.length c2, .slice (some ⟨ib, 0, none⟩) 3 3, .map (some gm)]) rfl (by kernel_rfl) (by kernel_rfl) (by kernel_rfl) (fun _ _ _ h => h) (Or.inl ⟨by rfl, ?_⟩) (by assumption) ?_
        · intro wS hSw
          try dsimp only at hSw
          go_simp
        try simp only [Act.put, List.setIfInBounds_toArray, List.set_cons_zero, List.set_cons_succ]
        refine wpAnyH_ready (rs := [5]) (by kernel_rfl) (by simp) ?_
        refine AllReadyH.cons (o := { dst := some 3, op := Op.alloc 116, type := 0, pos := "l4_scope.go:248", after := #[], guard := none }) rfl (fun K hK => ?_) AllReadyH.nil
        go_simp
        have L5 := Lib.hid (show w.heap.size + 1 < w2.heap.size from ZB.out.lt)
        have D52 := Lib.hid (show w2.heap.size ≠ ib from by have := F2.out.lt; omega)
        have D53 := Lib.hid (show w2.heap.size ≠ gm from by have := F3.out.lt; omega)
        have F5 := Lib.hid (Box.new w2 116 #[.slice none 0 0, .slice none 0 0, .map none])
        replace F2 := Lib.hid (F2.out.alloc (.cells #[.slice none 0 0, .slice none 0 0, .map none] 116))
        replace F3 := Lib.hid (F3.out.below ((Below.refl _ _).alloc (Nat.le_refl _) (.cells #[.slice none 0 0, .slice none 0 0, .map none] 116)))
        replace SB := Lib.hid (SB.out.alloc (.cells #[.slice none 0 0, .slice none 0 0, .map none] 116))
        replace ZB := Lib.hid (ZB.out.alloc (.cells #[.slice none 0 0, .slice none 0 0, .map none] 116))
        replace BW := Lib.hid (BW.out.alloc BW.out.size (.cells #[.slice none 0 0, .slice none 0 0, .map none] 116))
        obtain ⟨g, hx⟩ : ∃ z, z = w2.heap.size := ⟨_, rfl⟩
        rw [← hx] at F5 L5 D52 D53
        try rw [← hx]
        clear hx
        generalize w2.alloc (.cells #[.slice none 0 0, .slice none 0 0, .map none] 116) = w3 at *
        refine hK.out _ _ ?_ (fun hHeld2 => ?_)
        · exact SB.out.cell 2
        clear hK K hHeld
        have hHeld := hHeld2
        clear hHeld2
        try simp only [Act.put, List.setIfInBounds_toArray, List.set_cons_zero, List.set_cons_succ]
        refine wpAnyH_ready (rs := [6]) (by kernel_rfl) (by simp) ?_
        refine AllReadyH.cons (o := { dst := none, op := Op.store 116 (Operand.tmp 3) (Operand.tmp 12), type := 0, pos := "l4_scope.go:248", after := #[{ on := 5, ground := Ground.data }, { on := 4, ground := Ground.data }, { on := 2, ground := Ground.chain }, { on := 0, ground := Ground.phase }, { on := 1, ground := Ground.phase }, { on := 2, ground := Ground.phase }, { on := 3, ground := Ground.phase }, { on := 4, ground := Ground.phase }, { on := 5, ground := Ground.phase }], guard := none }) rfl (fun K hK => ?_) AllReadyH.nil
        have z0 : _ = some (Value.slice none 0 0) := F5.out.cell 0
        have z1 : _ = some (Value.slice none 0 0) := F5.out.cell 1
        have z2 : _ = some (Value.map none) := F5.out.cell 2
        have zf := F5.out.free
        go_simp
        have MD := Lib.hid (show Made w w.heap.size (.slice a2 s.fTypes.length c2) (scopeC s a1 a2 a3 a4 c1 c2 c3 c4) ZS g gm ib (((w3.setCell ⟨g, 0, none⟩ (.slice a2 s.fTypes.length c2)).setCell ⟨g, 1, none⟩ (.slice (some ⟨ib, 0, none⟩) 3 3)).setCell ⟨g, 2, none⟩ (.map (some gm))) from made_of F5.out F3.out F2.out SB.out ZB.out BW.out L5.out L3.out L2.out D53.out D52.out D32.out)
        generalize ((w3.setCell ⟨g, 0, none⟩ (.slice a2 s.fTypes.length c2)).setCell ⟨g, 1, none⟩ (.slice (some ⟨ib, 0, none⟩) 3 3)).setCell ⟨g, 2, none⟩ (.map (some gm)) = wz at *
        refine hK.out _ _ ?_ (fun hHeld2 => ?_)
        · exact MD.out.sb.cell 2
        clear hK K hHeld
        have hHeld := hHeld2
        clear hHeld2
        try simp only [Act.put, List.setIfInBounds_toArray, List.set_cons_zero, List.set_cons_succ]
        refine wpAnyH_done (by kernel_rfl) ?_ _
        clear hHeld L2 L3 L5 D32 D52 D53 F2 F3 F5 z0 z1 z2 zf SB ZB BW
        revert MD
        revert wz
        revert ib
        revert gm
        revert g
        exact key.out
      · go_simp
        have L5 := Lib.hid (show w.heap.size + 1 < w1.heap.size from ZB.out.lt)
        have D52 := Lib.hid (show w1.heap.size ≠ ib from by have := F2.out.lt; omega)
        have F5 := Lib.hid (Box.new w1 116 #[.slice none 0 0, .slice none 0 0, .map none])
        replace F2 := Lib.hid (F2.out.alloc (.cells #[.slice none 0 0, .slice none 0 0, .map none] 116))
        replace SB := Lib.hid (SB.out.alloc (.cells #[.slice none 0 0, .slice none 0 0, .map none] 116))
        replace ZB := Lib.hid (ZB.out.alloc (.cells #[.slice none 0 0, .slice none 0 0, .map none] 116))
        replace BW := Lib.hid (BW.out.alloc BW.out.size (.cells #[.slice none 0 0, .slice none 0 0, .map none] 116))
        obtain ⟨g, hx⟩ : ∃ z, z = w1.heap.size := ⟨_, rfl⟩
        rw [← hx] at F5 L5 D52
        try rw [← hx]
        clear hx
        generalize w1.alloc (.cells #[.slice none 0 0, .slice none 0 0, .map none] 116) = w4 at *
        refine hK.out _ _ ?_ (fun hHeld2 => ?_)
        · exact SB.out.cell 2
        clear hK K hHeld
        have hHeld := hHeld2
        clear hHeld2
        try simp only [Act.put, List.setIfInBounds_toArray, List.set_cons_zero, List.set_cons_succ]
        refine wpAnyH_ready (rs := [3]) (by kernel_rfl) (by simp) ?_
        refine AllReadyH.cons (o := { dst := some 11, op := Op.makeMap 114 none, type := 114, pos := "l4_scope.go:248", after := #[], guard := none }) rfl (fun K hK => ?_) AllReadyH.nil
        go_simp
        have L3 := Lib.hid (show w.heap.size + 1 < w4.heap.size from ZB.out.lt)
        have D32 := Lib.hid (show w4.heap.size ≠ ib from by have := F2.out.lt; omega)
        have D53 := Lib.hid (show g ≠ w4.heap.size from by have := F5.out.lt; omega)
        have F3 := Lib.hid (KMap.made (numZ [0, 1, 2]) w4)
        replace F2 := Lib.hid (F2.out.alloc (.map #[] 0))
        replace F5 := Lib.hid (F5.out.alloc (.map #[] 0))
        replace SB := Lib.hid (SB.out.alloc (.map #[] 0))
        replace ZB := Lib.hid (ZB.out.alloc (.map #[] 0))
        replace BW := Lib.hid (BW.out.alloc BW.out.size (.map #[] 0))
        obtain ⟨gm, hx⟩ : ∃ z, z = w4.heap.size := ⟨_, rfl⟩
        rw [← hx] at F3 L3 D32 D53
        try rw [← hx]
        clear hx
        generalize w4.alloc (.map #[] 0) = w5 at *
        refine hK.out _ _ ?_ (fun hHeld2 => ?_)
        · exact SB.out.cell 2
        clear hK K hHeld
        have hHeld := hHeld2
        clear hHeld2
        try simp only [Act.put, List.setIfInBounds_toArray, List.set_cons_zero, List.set_cons_succ]
        refine wpAnyH_take (i := 4) (oi := { dst := some 12, op := Op.build 116 #[(0, Operand.tmp 9), (1, Operand.tmp 10), (2, Operand.tmp 11)], type := 116, pos := "l4_scope.go:248", after := #[{ on := 1, ground := Ground.data }, { on := 2, ground := Ground.data }, { on := 3, ground := Ground.data }], guard := none }) (v := .agg #[.slice a2 s.fTypes.length c2, .slice (some ⟨ib, 0, none⟩) 3 3, .map (some gm)]) rfl (by kernel_rfl) (by kernel_rfl) (by kernel_rfl) (fun _ _ _ h => h) (Or.inl ⟨by rfl, ?_⟩) (by assumption) ?_
        · intro wS hSw
          try dsimp only at hSw
          go_simp
        try simp only [Act.put, List.setIfInBounds_toArray, List.set_cons_zero, List.set_cons_succ]
        refine wpAnyH_ready (rs := [6]) (by kernel_rfl) (by simp) ?_
        refine AllReadyH.cons (o := { dst := none, op := Op.store 116 (Operand.tmp 3) (Operand.tmp 12), type := 0, pos := "l4_scope.go:248", after := #[{ on := 5, ground := Ground.data }, { on := 4, ground := Ground.data }, { on := 2, ground := Ground.chain }, { on := 0, ground := Ground.phase }, { on := 1, ground := Ground.phase }, { on := 2, ground := Ground.phase }, { on := 3, ground := Ground.phase }, { on := 4, ground := Ground.phase }, { on := 5, ground := Ground.phase }], guard := none }) rfl (fun K hK => ?_) AllReadyH.nil
        have z0 : _ = some (Value.slice none 0 0) := F5.out.cell 0
        have z1 : _ = some (Value.slice none 0 0) := F5.out.cell 1
        have z2 : _ = some (Value.map none) := F5.out.cell 2
        have zf := F5.out.free
        go_simp
        have MD := Lib.hid (show Made w w.heap.size (.slice a2 s.fTypes.length c2) (scopeC s a1 a2 a3 a4 c1 c2 c3 c4) ZS g gm ib (((w5.setCell ⟨g, 0, none⟩ (.slice a2 s.fTypes.length c2)).setCell ⟨g, 1, none⟩ (.slice (some ⟨ib, 0, none⟩) 3 3)).setCell ⟨g, 2, none⟩ (.map (some gm))) from made_of F5.out F3.out F2.out SB.out ZB.out BW.out L5.out L3.out L2.out D53.out D52.out D32.out)
        generalize ((w5.setCell ⟨g, 0, none⟩ (.slice a2 s.fTypes.length c2)).setCell ⟨g, 1, none⟩ (.slice (some ⟨ib, 0, none⟩) 3 3)).setCell ⟨g, 2, none⟩ (.map (some gm)) = wz at *
        refine hK.out _ _ ?_ (fun hHeld2 => ?_)
        · exact MD.out.sb.cell 2
        clear hK K hHeld
        have hHeld := hHeld2
        clear hHeld2
        try simp only [Act.put, List.setIfInBounds_toArray, List.set_cons_zero, List.set_cons_succ]
        refine wpAnyH_done (by kernel_rfl) ?_ _
        clear hHeld L2 L3 L5 D32 D52 D53 F2 F3 F5 z0 z1 z2 zf SB ZB BW
        revert MD
        revert wz
        revert ib
        revert gm
        revert g
        exact key.out
    · go_simp
      have L3 := Lib.hid (show w.heap.size + 1 < wd.heap.size from ZB.out.lt)
      have F3 := Lib.hid (KMap.made (numZ [0, 1, 2]) wd)
      replace SB := Lib.hid (SB.out.alloc (.map #[] 0))
      replace ZB := Lib.hid (ZB.out.alloc (.map #[] 0))
      replace BW := Lib.hid (BW.out.alloc BW.out.size (.map #[] 0))
      obtain ⟨gm, hx⟩ : ∃ z, z = wd.heap.size := ⟨_, rfl⟩
      rw [← hx] at F3 L3
      try rw [← hx]
      clear hx
      generalize wd.alloc (.map #[] 0) = w6 at *
      refine hK.out _ _ ?_ (fun hHeld2 => ?_)
      · exact SB.out.cell 2
      clear hK K hHeld
      have hHeld := hHeld2
      clear hHeld2
      try simp only [Act.put, List.setIfInBounds_toArray, List.set_cons_zero, List.set_cons_succ]
      refine wpAnyH_ready (rs := [2, 5]) (by kernel_rfl) (by simp) ?_
      refine AllReadyH.cons (o := { dst := some 10, op := Op.call { callee := Callee.value (Operand.func 76), args := #[], argTypes := #[] }, type := 29, pos := "l4_scope.go:248", after := #[], guard := none }) rfl (fun K hK => ?_) (AllReadyH.cons (o := { dst := some 3, op := Op.alloc 116, type := 0, pos := "l4_scope.go:248", after := #[], guard := none }) rfl (fun K hK => ?_) AllReadyH.nil)
      · go_simp
        go_at_call 76
        refine (iBaseTypes _).mono ?_
        rintro e wn ⟨rfl, rfl⟩
        have L2 := Lib.hid (show w.heap.size + 1 < w6.heap.size from ZB.out.lt)
        have D32 := Lib.hid (show gm ≠ w6.heap.size from by have := F3.out.lt; omega)
        have F2 := Lib.hid (Box.new w6 72 baseA)
        replace F3 := Lib.hid (F3.out.below ((Below.refl _ _).alloc (Nat.le_refl _) (.cells baseA 72)))
        replace SB := Lib.hid (SB.out.alloc (.cells baseA 72))
        replace ZB := Lib.hid (ZB.out.alloc (.cells baseA 72))
        replace BW := Lib.hid (BW.out.alloc BW.out.size (.cells baseA 72))
        obtain ⟨ib, hx⟩ : ∃ z, z = w6.heap.size := ⟨_, rfl⟩
        rw [← hx] at F2 L2 D32
        try rw [← hx]
        clear hx
        generalize w6.alloc (.cells baseA 72) = w7 at *
        refine hK.out _ _ ?_ (fun hHeld2 => ?_)
        · exact SB.out.cell 2
        clear hK K hHeld
        have hHeld := hHeld2
        clear hHeld2
        try simp only [Act.put, List.setIfInBounds_toArray, List.set_cons_zero, List.set_cons_succ]
        refine wpAnyH_take (i := 4) (oi := { dst := some 12, op := Op.build 116 #[(0, Operand.tmp 9), (1, Operand.tmp 10), (2, Operand.tmp 11)], type := 116, pos := "l4_scope.go:248", after := #[{ on := 1, ground := Ground.data }, { on := 2, ground := Ground.data }, { on := 3, ground := Ground.data }], guard := none }) (v := .agg #[.slice a2 s.fTypes.length c2, .slice (some ⟨ib, 0, none⟩) 3 3, .map (some gm)]) rfl (by kernel_rfl) (by kernel_rfl) (by kernel_rfl) (fun _ _ _ h => h) (Or.inl ⟨by rfl, ?_⟩) (by assumption) ?_
        · intro wS hSw
          try dsimp only at hSw
          go_simp
        try simp only [Act.put, List.setIfInBounds_toArray, List.set_cons_zero, List.set_cons_succ]
        refine wpAnyH_ready (rs := [5]) (by kernel_rfl) (by simp) ?_
        refine AllReadyH.cons (o := { dst := some 3, op := Op.alloc 116, type := 0, pos := "l4_scope.go:248", after := #[], guard := none }) rfl (fun K hK => ?_) AllReadyH.nil
        go_simp
        have L5 := Lib.hid (show w.heap.size + 1 < w7.heap.size from ZB.out.lt)
        have D53 := Lib.hid (show w7.heap.size ≠ gm from by have := F3.out.lt; omega)
        have D52 := Lib.hid (show w7.heap.size ≠ ib from by have := F2.out.lt; omega)
        have F5 := Lib.hid (Box.new w7 116 #[.slice none 0 0, .slice none 0 0, .map none])
        replace F3 := Lib.hid (F3.out.below ((Below.refl _ _).alloc (Nat.le_refl _) (.cells #[.slice none 0 0, .slice none 0 0, .map none] 116)))
        replace F2 := Lib.hid (F2.out.alloc (.cells #[.slice none 0 0, .slice none 0 0, .map none] 116))
        replace SB := Lib.hid (SB.out.alloc (.cells #[.slice none 0 0, .slice none 0 0, .map none] 116))
        replace ZB := Lib.hid (ZB.out.alloc (.cells #[.slice none 0 0, .slice none 0 0, .map none] 116))
        replace BW := Lib.hid (BW.out.alloc BW.out.size (.cells #[.slice none 0 0, .slice none 0 0, .map none] 116))
        obtain ⟨g, hx⟩ : ∃ z, z = w7.heap.size := ⟨_, rfl⟩
        rw [← hx] at F5 L5 D53 D52
        try rw [← hx]
        clear hx
        generalize w7.alloc (.cells #[.slice none 0 0, .slice none 0 0, .map none] 116) = w8 at *
        refine hK.out _ _ ?_ (fun hHeld2 => ?_)
        · exact SB.out.cell 2
        clear hK K hHeld
        have hHeld := hHeld2
        clear hHeld2
        try simp only [Act.put, List.setIfInBounds_toArray, List.set_cons_zero, List.set_cons_succ]
        refine wpAnyH_ready (rs := [6]) (by kernel_rfl) (by simp) ?_
        refine AllReadyH.cons (o := { dst := none, op := Op.store 116 (Operand.tmp 3) (Operand.tmp 12), type := 0, pos := "l4_scope.go:248", after := #[{ on := 5, ground := Ground.data }, { on := 4, ground := Ground.data }, { on := 2, ground := Ground.chain }, { on := 0, ground := Ground.phase }, { on := 1, ground := Ground.phase }, { on := 2, ground := Ground.phase }, { on := 3, ground := Ground.phase }, { on := 4, ground := Ground.phase }, { on := 5, ground := Ground.phase }], guard := none }) rfl (fun K hK => ?_) AllReadyH.nil
        have z0 : _ = some (Value.slice none 0 0) := F5.out.cell 0
        have z1 : _ = some (Value.slice none 0 0) := F5.out.cell 1
        have z2 : _ = some (Value.map none) := F5.out.cell 2
        have zf := F5.out.free
        go_simp
        have MD := Lib.hid (show Made w w.heap.size (.slice a2 s.fTypes.length c2) (scopeC s a1 a2 a3 a4 c1 c2 c3 c4) ZS g gm ib (((w8.setCell ⟨g, 0, none⟩ (.slice a2 s.fTypes.length c2)).setCell ⟨g, 1, none⟩ (.slice (some ⟨ib, 0, none⟩) 3 3)).setCell ⟨g, 2, none⟩ (.map (some gm))) from made_of F5.out F3.out F2.out SB.out ZB.out BW.out L5.out L3.out L2.out D53.out D52.out D32.out)
        generalize ((w8.setCell ⟨g, 0, none⟩ (.slice a2 s.fTypes.length c2)).setCell ⟨g, 1, none⟩ (.slice (some ⟨ib, 0, none⟩) 3 3)).setCell ⟨g, 2, none⟩ (.map (some gm)) = wz at *
        refine hK.out _ _ ?_ (fun hHeld2 => ?_)
        · exact MD.out.sb.cell 2
        clear hK K hHeld
        have hHeld := hHeld2
        clear hHeld2
        try simp only [Act.put, List.setIfInBounds_toArray, List.set_cons_zero, List.set_cons_succ]
        refine wpAnyH_done (by kernel_rfl) ?_ _
        clear hHeld L2 L3 L5 D32 D52 D53 F2 F3 F5 z0 z1 z2 zf SB ZB BW
        revert MD
        revert wz
        revert ib
        revert gm
        revert g
        exact key.out
      · go_simp
        have L5 := Lib.hid (show w.heap.size + 1 < w6.heap.size from ZB.out.lt)
        have D53 := Lib.hid (show w6.heap.size ≠ gm from by have := F3.out.lt; omega)
        have F5 := Lib.hid (Box.new w6 116 #[.slice none 0 0, .slice none 0 0, .map none])
        replace F3 := Lib.hid (F3.out.below ((Below.refl _ _).alloc (Nat.le_refl _) (.cells #[.slice none 0 0, .slice none 0 0, .map none] 116)))
        replace SB := Lib.hid (SB.out.alloc (.cells #[.slice none 0 0, .slice none 0 0, .map none] 116))
        replace ZB := Lib.hid (ZB.out.alloc (.cells #[.slice none 0 0, .slice none 0 0, .map none] 116))
        replace BW := Lib.hid (BW.out.alloc BW.out.size (.cells #[.slice none 0 0, .slice none 0 0, .map none] 116))
        obtain ⟨g, hx⟩ : ∃ z, z = w6.heap.size := ⟨_, rfl⟩
        rw [← hx] at F5 L5 D53
        try rw [← hx]
        clear hx
        generalize w6.alloc (.cells #[.slice none 0 0, .slice none 0 0, .map none] 116) = w9 at *
        refine hK.out _ _ ?_ (fun hHeld2 => ?_)
        · exact SB.out.cell 2
        clear hK K hHeld
        have hHeld := hHeld2
        clear hHeld2
        try simp only [Act.put, List.setIfInBounds_toArray, List.set_cons_zero, List.set_cons_succ]
        refine wpAnyH_ready (rs := [2]) (by kernel_rfl) (by simp) ?_
        refine AllReadyH.cons (o := { dst := some 10, op := Op.call { callee := Callee.value (Operand.func 76), args := #[], argTypes := #[] }, type := 29, pos := "l4_scope.go:248", after := #[], guard := none }) rfl (fun K hK => ?_) AllReadyH.nil
        go_simp
        go_at_call 76
        refine (iBaseTypes _).mono ?_
        rintro e wn ⟨rfl, rfl⟩
        have L2 := Lib.hid (show w.heap.size + 1 < w9.heap.size from ZB.out.lt)
        have D32 := Lib.hid (show gm ≠ w9.heap.size from by have := F3.out.lt; omega)
        have D52 := Lib.hid (show g ≠ w9.heap.size from by have := F5.out.lt; omega)
        have F2 := Lib.hid (Box.new w9 72 baseA)
        replace F3 := Lib.hid (F3.out.below ((Below.refl _ _).alloc (Nat.le_refl _) (.cells baseA 72)))
        replace F5 := Lib.hid (F5.out.alloc (.cells baseA 72))
        replace SB := Lib.hid (SB.out.alloc (.cells baseA 72))
        replace ZB := Lib.hid (ZB.out.alloc (.cells baseA 72))
        replace BW := Lib.hid (BW.out.alloc BW.out.size (.cells baseA 72))
        obtain ⟨ib, hx⟩ : ∃ z, z = w9.heap.size := ⟨_, rfl⟩
        rw [← hx] at F2 L2 D32 D52
        try rw [← hx]
        clear hx
        generalize w9.alloc (.cells baseA 72) = w10 at *
        refine hK.out _ _ ?_ (fun hHeld2 => ?_)
        · exact SB.out.cell 2
        clear hK K hHeld
        have hHeld := hHeld2
        clear hHeld2
        try simp only [Act.put, List.setIfInBounds_toArray, List.set_cons_zero, List.set_cons_succ]
        refine wpAnyH_take (i := 4) (oi := { dst := some 12, op := Op.build 116 #[(0, Operand.tmp 9), (1, Operand.tmp 10), (2, Operand.tmp 11)], type := 116, pos := "l4_scope.go:248", after := #[{ on := 1, ground := Ground.data }, { on := 2, ground := Ground.data }, { on := 3, ground := Ground.data }], guard := none }) (v := .agg #[.slice a2 s.fTypes.length c2, .slice (some ⟨ib, 0, none⟩) 3 3, .map (some gm)]) rfl (by kernel_rfl) (by kernel_rfl) (by kernel_rfl) (fun _ _ _ h => h) (Or.inl ⟨by rfl, ?_⟩) (by assumption) ?_
        · intro wS hSw
          try dsimp only at hSw
          go_simp
        try simp only [Act.put, List.setIfInBounds_toArray, List.set_cons_zero, List.set_cons_succ]
        refine wpAnyH_ready (rs := [6]) (by kernel_rfl) (by simp) ?_
        refine AllReadyH.cons (o := { dst := none, op := Op.store 116 (Operand.tmp 3) (Operand.tmp 12), type := 0, pos := "l4_scope.go:248", after := #[{ on := 5, ground := Ground.data }, { on := 4, ground := Ground.data }, { on := 2, ground := Ground.chain }, { on := 0, ground := Ground.phase }, { on := 1, ground := Ground.phase }, { on := 2, ground := Ground.phase }, { on := 3, ground := Ground.phase }, { on := 4, ground := Ground.phase }, { on := 5, ground := Ground.phase }], guard := none }) rfl (fun K hK => ?_) AllReadyH.nil
        have z0 : _ = some (Value.slice none 0 0) := F5.out.cell 0
        have z1 : _ = some (Value.slice none 0 0) := F5.out.cell 1
        have z2 : _ = some (Value.map none) := F5.out.cell 2
        have zf := F5.out.free
        go_simp
        have MD := Lib.hid (show Made w w.heap.size (.slice a2 s.fTypes.length c2) (scopeC s a1 a2 a3 a4 c1 c2 c3 c4) ZS g gm ib (((w10.setCell ⟨g, 0, none⟩ (.slice a2 s.fTypes.length c2)).setCell ⟨g, 1, none⟩ (.slice (some ⟨ib, 0, none⟩) 3 3)).setCell ⟨g, 2, none⟩ (.map (some gm))) from made_of F5.out F3.out F2.out SB.out ZB.out BW.out L5.out L3.out L2.out D53.out D52.out D32.out)
        generalize ((w10.setCell ⟨g, 0, none⟩ (.slice a2 s.fTypes.length c2)).setCell ⟨g, 1, none⟩ (.slice (some ⟨ib, 0, none⟩) 3 3)).setCell ⟨g, 2, none⟩ (.map (some gm)) = wz at *
        refine hK.out _ _ ?_ (fun hHeld2 => ?_)
        · exact MD.out.sb.cell 2
        clear hK K hHeld
        have hHeld := hHeld2
        clear hHeld2
        try simp only [Act.put, List.setIfInBounds_toArray, List.set_cons_zero, List.set_cons_succ]
        refine wpAnyH_done (by kernel_rfl) ?_ _
        clear hHeld L2 L3 L5 D32 D52 D53 F2 F3 F5 z0 z1 z2 zf SB ZB BW
        revert MD
        revert wz
        revert ib
        revert gm
        revert g
        exact key.out
    · go_simp
      have L5 := Lib.hid (show w.heap.size + 1 < wd.heap.size from ZB.out.lt)
      have F5 := Lib.hid (Box.new wd 116 #[.slice none 0 0, .slice none 0 0, .map none])
      replace SB := Lib.hid (SB.out.alloc (.cells #[.slice none 0 0, .slice none 0 0, .map none] 116))
      replace ZB := Lib.hid (ZB.out.alloc (.cells #[.slice none 0 0, .slice none 0 0, .map none] 116))
      replace BW := Lib.hid (BW.out.alloc BW.out.size (.cells #[.slice none 0 0, .slice none 0 0, .map none] 116))
      obtain ⟨g, hx⟩ : ∃ z, z = wd.heap.size := ⟨_, rfl⟩
      rw [← hx] at F5 L5
      try rw [← hx]
      clear hx
      generalize wd.alloc (.cells #[.slice none 0 0, .slice none 0 0, .map none] 116) = w11 at *
      refine hK.out _ _ ?_ (fun hHeld2 => ?_)
      · exact SB.out.cell 2
      clear hK K hHeld
      have hHeld := hHeld2
      clear hHeld2
      try simp only [Act.put, List.setIfInBounds_toArray, List.set_cons_zero, List.set_cons_succ]
      refine wpAnyH_ready (rs := [2, 3]) (by kernel_rfl) (by simp) ?_
      refine AllReadyH.cons (o := { dst := some 10, op := Op.call { callee := Callee.value (Operand.func 76), args := #[], argTypes := #[] }, type := 29, pos := "l4_scope.go:248", after := #[], guard := none }) rfl (fun K hK => ?_) (AllReadyH.cons (o := { dst := some 11, op := Op.makeMap 114 none, type := 114, pos := "l4_scope.go:248", after := #[], guard := none }) rfl (fun K hK => ?_) AllReadyH.nil)
      · go_simp
        go_at_call 76
        refine (iBaseTypes _).mono ?_
        rintro e wn ⟨rfl, rfl⟩
        have L2 := Lib.hid (show w.heap.size + 1 < w11.heap.size from ZB.out.lt)
        have D52 := Lib.hid (show g ≠ w11.heap.size from by have := F5.out.lt; omega)
        have F2 := Lib.hid (Box.new w11 72 baseA)
        replace F5 := Lib.hid (F5.out.alloc (.cells baseA 72))
        replace SB := Lib.hid (SB.out.alloc (.cells baseA 72))
        replace ZB := Lib.hid (ZB.out.alloc (.cells baseA 72))
        replace BW := Lib.hid (BW.out.alloc BW.out.size (.cells baseA 72))
        obtain ⟨ib, hx⟩ : ∃ z, z = w11.heap.size := ⟨_, rfl⟩
        rw [← hx] at F2 L2 D52
        try rw [← hx]
        clear hx
        generalize w11.alloc (.cells baseA 72) = w12 at *
        refine hK.out _ _ ?_ (fun hHeld2 => ?_)
        · exact SB.out.cell 2
        clear hK K hHeld
        have hHeld := hHeld2
        clear hHeld2
        try simp only [Act.put, List.setIfInBounds_toArray, List.set_cons_zero, List.set_cons_succ]
        refine wpAnyH_ready (rs := [3]) (by kernel_rfl) (by simp) ?_
        refine AllReadyH.cons (o := { dst := some 11, op := Op.makeMap 114 none, type := 114, pos := "l4_scope.go:248", after := #[], guard := none }) rfl (fun K hK => ?_) AllReadyH.nil
        go_simp
        have L3 := Lib.hid (show w.heap.size + 1 < w12.heap.size from ZB.out.lt)
        have D53 := Lib.hid (show g ≠ w12.heap.size from by have := F5.out.lt; omega)
        have D32 := Lib.hid (show w12.heap.size ≠ ib from by have := F2.out.lt; omega)
        have F3 := Lib.hid (KMap.made (numZ [0, 1, 2]) w12)
        replace F5 := Lib.hid (F5.out.alloc (.map #[] 0))
        replace F2 := Lib.hid (F2.out.alloc (.map #[] 0))
        replace SB := Lib.hid (SB.out.alloc (.map #[] 0))
        replace ZB := Lib.hid (ZB.out.alloc (.map #[] 0))
        replace BW := Lib.hid (BW.out.alloc BW.out.size (.map #[] 0))
        obtain ⟨gm, hx⟩ : ∃ z, z = w12.heap.size := ⟨_, rfl⟩
        rw [← hx] at F3 L3 D53 D32
        try rw [← hx]
        clear hx
        generalize w12.alloc (.map #[] 0) = w13 at *
        refine hK.out _ _ ?_ (fun hHeld2 => ?_)
        · exact SB.out.cell 2
        clear hK K hHeld
        have hHeld := hHeld2
        clear hHeld2
        try simp only [Act.put, List.setIfInBounds_toArray, List.set_cons_zero, List.set_cons_succ]
        refine wpAnyH_take (i := 4) (oi := { dst := some 12, op := Op.build 116 #[(0, Operand.tmp 9), (1, Operand.tmp 10), (2, Operand.tmp 11)], type := 116, pos := "l4_scope.go:248", after := #[{ on := 1, ground := Ground.data }, { on := 2, ground := Ground.data }, { on := 3, ground := Ground.data }], guard := none }) (v := .agg #[.slice a2 s.fTypes.length c2, .slice (some ⟨ib, 0, none⟩) 3 3, .map (some gm)]) rfl (by kernel_rfl) (by kernel_rfl) (by kernel_rfl) (fun _ _ _ h => h) (Or.inl ⟨by rfl, ?_⟩) (by assumption) ?_
        · intro wS hSw
          try dsimp only at hSw
          go_simp
        try simp only [Act.put, List.setIfInBounds_toArray, List.set_cons_zero, List.set_cons_succ]
        refine wpAnyH_ready (rs := [6]) (by kernel_rfl) (by simp) ?_
        refine AllReadyH.cons (o := { dst := none, op := Op.store 116 (Operand.tmp 3) (Operand.tmp 12), type := 0, pos := "l4_scope.go:248", after := #[{ on := 5, ground := Ground.data }, { on := 4, ground := Ground.data }, { on := 2, ground := Ground.chain }, { on := 0, ground := Ground.phase }, { on := 1, ground := Ground.phase }, { on := 2, ground := Ground.phase }, { on := 3, ground := Ground.phase }, { on := 4, ground := Ground.phase }, { on := 5, ground := Ground.phase }], guard := none }) rfl (fun K hK => ?_) AllReadyH.nil
        have z0 : _ = some (Value.slice none 0 0) := F5.out.cell 0
        have z1 : _ = some (Value.slice none 0 0) := F5.out.cell 1
        have z2 : _ = some (Value.map none) := F5.out.cell 2
        have zf := F5.out.free
        go_simp
        have MD := Lib.hid (show Made w w.heap.size (.slice a2 s.fTypes.length c2) (scopeC s a1 a2 a3 a4 c1 c2 c3 c4) ZS g gm ib (((w13.setCell ⟨g, 0, none⟩ (.slice a2 s.fTypes.length c2)).setCell ⟨g, 1, none⟩ (.slice (some ⟨ib, 0, none⟩) 3 3)).setCell ⟨g, 2, none⟩ (.map (some gm))) from made_of F5.out F3.out F2.out SB.out ZB.out BW.out L5.out L3.out L2.out D53.out D52.out D32.out)
        generalize ((w13.setCell ⟨g, 0, none⟩ (.slice a2 s.fTypes.length c2)).setCell ⟨g, 1, none⟩ (.slice (some ⟨ib, 0, none⟩) 3 3)).setCell ⟨g, 2, none⟩ (.map (some gm)) = wz at *
        refine hK.out _ _ ?_ (fun hHeld2 => ?_)
        · exact MD.out.sb.cell 2
        clear hK K hHeld
        have hHeld := hHeld2
        clear hHeld2
        try simp only [Act.put, List.setIfInBounds_toArray, List.set_cons_zero, List.set_cons_succ]
        refine wpAnyH_done (by kernel_rfl) ?_ _
        clear hHeld L2 L3 L5 D32 D52 D53 F2 F3 F5 z0 z1 z2 zf SB ZB BW
        revert MD
        revert wz
        revert ib
        revert gm
        revert g
        exact key.out
      · go_simp
        have L3 := Lib.hid (show w.heap.size + 1 < w11.heap.size from ZB.out.lt)
        have D53 := Lib.hid (show g ≠ w11.heap.size from by have := F5.out.lt; omega)
        have F3 := Lib.hid (KMap.made (numZ [0, 1, 2]) w11)
        replace F5 := Lib.hid (F5.out.alloc (.map #[] 0))
        replace SB := Lib.hid (SB.out.alloc (.map #[] 0))
        replace ZB := Lib.hid (ZB.out.alloc (.map #[] 0))
        replace BW := Lib.hid (BW.out.alloc BW.out.size (.map #[] 0))
        obtain ⟨gm, hx⟩ : ∃ z, z = w11.heap.size := ⟨_, rfl⟩
        rw [← hx] at F3 L3 D53
        try rw [← hx]
        clear hx
        generalize w11.alloc (.map #[] 0) = w14 at *
        refine hK.out _ _ ?_ (fun hHeld2 => ?_)
        · exact SB.out.cell 2
        clear hK K hHeld
        have hHeld := hHeld2
        clear hHeld2
        try simp only [Act.put, List.setIfInBounds_toArray, List.set_cons_zero, List.set_cons_succ]
        refine wpAnyH_ready (rs := [2]) (by kernel_rfl) (by simp) ?_
        refine AllReadyH.cons (o := { dst := some 10, op := Op.call { callee := Callee.value (Operand.func 76), args := #[], argTypes := #[] }, type := 29, pos := "l4_scope.go:248", after := #[], guard := none }) rfl (fun K hK => ?_) AllReadyH.nil
        go_simp
        go_at_call 76
        refine (iBaseTypes _).mono ?_
        rintro e wn ⟨rfl, rfl⟩
        have L2 := Lib.hid (show w.heap.size + 1 < w14.heap.size from ZB.out.lt)
        have D52 := Lib.hid (show g ≠ w14.heap.size from by have := F5.out.lt; omega)
        have D32 := Lib.hid (show gm ≠ w14.heap.size from by have := F3.out.lt; omega)
        have F2 := Lib.hid (Box.new w14 72 baseA)
        replace F5 := Lib.hid (F5.out.alloc (.cells baseA 72))
        replace F3 := Lib.hid (F3.out.below ((Below.refl _ _).alloc (Nat.le_refl _) (.cells baseA 72)))
        replace SB := Lib.hid (SB.out.alloc (.cells baseA 72))
        replace ZB := Lib.hid (ZB.out.alloc (.cells baseA 72))
        replace BW := Lib.hid (BW.out.alloc BW.out.size (.cells baseA 72))
        obtain ⟨ib, hx⟩ : ∃ z, z = w14.heap.size := ⟨_, rfl⟩
        rw [← hx] at F2 L2 D52 D32
        try rw [← hx]
        clear hx
        generalize w14.alloc (.cells baseA 72) = w15 at *
        refine hK.out _ _ ?_ (fun hHeld2 => ?_)
        · exact SB.out.cell 2
        clear hK K hHeld
        have hHeld := hHeld2
        clear hHeld2
        try simp only [Act.put, List.setIfInBounds_toArray, List.set_cons_zero, List.set_cons_succ]
        refine wpAnyH_take (i := 4) (oi := { dst := some 12, op := Op.build 116 #[(0, Operand.tmp 9), (1, Operand.tmp 10), (2, Operand.tmp 11)], type := 116, pos := "l4_scope.go:248", after := #[{ on := 1, ground := Ground.data }, { on := 2, ground := Ground.data }, { on := 3, ground := Ground.data }], guard := none }) (v := .agg #[.slice a2 s.fTypes.length c2, .slice (some ⟨ib, 0, none⟩) 3 3, .map (some gm)]) rfl (by kernel_rfl) (by kernel_rfl) (by kernel_rfl) (fun _ _ _ h => h) (Or.inl ⟨by rfl, ?_⟩) (by assumption) ?_
        · intro wS hSw
          try dsimp only at hSw
          go_simp
        try simp only [Act.put, List.setIfInBounds_toArray, List.set_cons_zero, List.set_cons_succ]
        refine wpAnyH_ready (rs := [6]) (by kernel_rfl) (by simp) ?_
        refine AllReadyH.cons (o := { dst := none, op := Op.store 116 (Operand.tmp 3) (Operand.tmp 12), type := 0, pos := "l4_scope.go:248", after := #[{ on := 5, ground := Ground.data }, { on := 4, ground := Ground.data }, { on := 2, ground := Ground.chain }, { on := 0, ground := Ground.phase }, { on := 1, ground := Ground.phase }, { on := 2, ground := Ground.phase }, { on := 3, ground := Ground.phase }, { on := 4, ground := Ground.phase }, { on := 5, ground := Ground.phase }], guard := none }) rfl (fun K hK => ?_) AllReadyH.nil
        have z0 : _ = some (Value.slice none 0 0) := F5.out.cell 0
        have z1 : _ = some (Value.slice none 0 0) := F5.out.cell 1
        have z2 : _ = some (Value.map none) := F5.out.cell 2
        have zf := F5.out.free
        go_simp
        have MD := Lib.hid (show Made w w.heap.size (.slice a2 s.fTypes.length c2) (scopeC s a1 a2 a3 a4 c1 c2 c3 c4) ZS g gm ib (((w15.setCell ⟨g, 0, none⟩ (.slice a2 s.fTypes.length c2)).setCell ⟨g, 1, none⟩ (.slice (some ⟨ib, 0, none⟩) 3 3)).setCell ⟨g, 2, none⟩ (.map (some gm))) from made_of F5.out F3.out F2.out SB.out ZB.out BW.out L5.out L3.out L2.out D53.out D52.out D32.out)
        generalize ((w15.setCell ⟨g, 0, none⟩ (.slice a2 s.fTypes.length c2)).setCell ⟨g, 1, none⟩ (.slice (some ⟨ib, 0, none⟩) 3 3)).setCell ⟨g, 2, none⟩ (.map (some gm)) = wz at *
        refine hK.out _ _ ?_ (fun hHeld2 => ?_)
        · exact MD.out.sb.cell 2
        clear hK K hHeld
        have hHeld := hHeld2
        clear hHeld2
        try simp only [Act.put, List.setIfInBounds_toArray, List.set_cons_zero, List.set_cons_succ]
        refine wpAnyH_done (by kernel_rfl) ?_ _
        clear hHeld L2 L3 L5 D32 D52 D53 F2 F3 F5 z0 z1 z2 zf SB ZB BW
        revert MD
        revert wz
        revert ib
        revert gm
        revert g
        exact key.out
    --E1>
  case heavy =>
    intro g gm ib W MD
    clear hmm SB ZB BW wq
    have x1 : _ = some (Value.slice (some ⟨ib, 0, none⟩) 3 3) := MD.out.gb.cell 1
    go_wp2_with fail
    go_loopw [16] (fun i wr => ∃ n : Nat, i = .int .i64 n ∧ n ≤ 3 ∧ KMap (numZ [0, 1, 2]) wr gm (([0, 1, 2] : List Int).take n) ∧ Only gm W wr) (fun i _ => 3 - (intOf i).toNat)
    case atStart => exact ⟨0, rfl, by omega, MD.out.mb, Only.refl _ _⟩
    case round =>
      clear x1
      obtain ⟨n, rfl, hn, hkm, hon⟩ := hrel
      have ON := Lib.hid hon
      by_cases hlt : n < 3
      · have hS : numZ [0, 1, 2] (n : Int) = (n : Int) := by rcases (show n = 0 ∨ n = 1 ∨ n = 2 by omega) with rfl | rfl | rfl <;> rfl
        have hT : ([0, 1, 2] : List Int).take n ++ [(n : Int)] = ([0, 1, 2] : List Int).take (n + 1) := by rcases (show n = 0 ∨ n = 1 ∨ n = 2 by omega) with rfl | rfl | rfl <;> rfl
        have hw : (Lit.int .i64 (n : Int)).wf = true := by
          simp [Lit.wf, IntKind.min, IntKind.max, IntKind.signed, IntKind.bits]
          omega
        obtain ⟨w', hput, hk2, hg2⟩ := hkm.put (t := 114) Tryz.underlying114 (x := (n : Int)) (by unfold maxLen; simp; omega) hw (by rw [hS]; exact hw)
        rw [hS] at hput
        rw [hT] at hk2
        have K2 := Lib.hid hk2
        have O2 := Lib.hid (hon.trans hg2)
        have x2 : _ = some (Value.map (some gm)) := (MD.out.gb.only hon MD.out.e1).cell 2
        clear hS hT hw hk2 hg2 hkm hon
        go_wp2_with fail
        exact ⟨⟨n + 1, by congr 1, by omega, K2.out, O2.out⟩, by simp [intOf]; omega⟩
      · have hn3 : n = 3 := by omega
        have hlt' : ¬ (n : Int) < 3 := by omega
        rw [hn3] at hkm
        clear hn3 hlt hn
        have SBr := Lib.hid (MD.out.sb.only hon (by have := MD.out.lm; omega))
        have hlg := MD.out.lg
        have hlm := MD.out.lm
        have hli := MD.out.li
        have hWr : w.heap.size ≤ W.heap.size := MD.out.bel.size
        have hb0 : Below w.heap.size w wr := ⟨hon.os.trans MD.out.bel.os, hon.tape.trans MD.out.bel.tape, hon.output.trans MD.out.bel.output, Nat.le_trans hWr hon.size, fun q hq => (hon.block q (by omega) (fun e => by injection e with e; omega)).trans (MD.out.bel.block q hq)⟩
        have E0 := Lib.hid (show ExI s.fTypes a2 c2 w g gm wr.heap.size (scopeC s a1 a2 a3 a4 c1 c2 c3 c4) (fun _ => False) (.slice none 0 0) wr (.slice (some ⟨ib, 0, none⟩) 3 3) [0, 1, 2] baseD [] from by
          have hgb := MD.out.gb.only hon MD.out.e1
          have htb := MD.out.tb.only hon (Ne.symm MD.out.e3)
          have hzb := MD.out.zb.only hon (by omega)
          have hT0 := Told.start (l := s.fTypes) (o := [0, 1, 2]) (L := baseD) rfl (base_order B3.out).2
          refine ⟨⟨hgb, hkm, base_ownG _ htb (by omega), fun q hq hx => ?_, fun q hq => ?_, rfl, (base_order B3.out).2, .inl (.inl rfl), .inl (.inr (.inl rfl)), MD.out.e1, (HR.out.types.mono (Q' := fun b => b < w.heap.size ∧ b ≠ g ∧ b ≠ gm) (fun q _ hl => ⟨hl, by omega, by omega⟩)).below hb0, hb0.size⟩, hT0, OwnG.nil, fun _ h => h.elim, SBr.out, hzb, hb0, Nat.le_refl _, hgb.lt, hkm.lt, hzb.lt, hlg, hlm, fun q hq => ?_⟩
          · rw [ownBlock_slice] at hq
            injection hq with hq
            subst hq
            have h1 := MD.out.e2
            have h2 := MD.out.e3
            rcases hx with (e | e | e | e) | e | e
            · exact h1 e.symm
            · exact h2 e.symm
            · omega
            · omega
            · simp [Value.ownBlock] at e
            · exact e
          · rcases hq with (e | e | e | e) | e | e
            · rw [e]; exact hgb.lt
            · rw [e]; exact hkm.lt
            · rw [e]; exact SBr.out.lt
            · rw [e]; exact hzb.lt
            · simp [Value.ownBlock] at e
            · exact e.elim
          · rw [ownBlock_slice] at hq
            injection hq with hq
            omega)
        have x3 : _ = some (Value.slice a3 s.fObjects.length c3) := SBr.out.cell 3
        obtain ⟨m, hm⟩ : ∃ z, z = wr.heap.size := ⟨_, rfl⟩
        rw [← hm] at E0
        clear hb0 hkm hon ON MD SBr hWr hli
        go_wp2_with fail
        clear hm x3
        go_loopw [27, 5] (fun x y W2 => ∃ (k : Nat) (P : Nat → Prop) (v iv : Value) (L : List TypeD), x = .int .i64 k ∧ v = y ∧ k ≤ s.fObjects.length ∧ ExI s.fTypes a2 c2 w g gm m (scopeC s a1 a2 a3 a4 c1 c2 c3 c4) P v W2 iv (orderZ s.fTypes (s.fObjects.take k)) L ((shownO (s.fObjects.take k)).map (transO (orderZ s.fTypes (s.fObjects.take k))))) (fun x _ _ => s.fObjects.length - (intOf x).toNat)
        case atStart => exact ⟨0, _, _, _, _, rfl, rfl, by omega, E0.out⟩
        case round =>
          clear E0
          obtain ⟨k, P, v, iv, L, rfl, rfl, hk, hE⟩ := hrel
          have EX := Lib.hid hE
          by_cases hlt : k < s.fObjects.length
          · obtain ⟨b, bo, a5, c5, hba, hb1, e0, e1, e2, e3, e4, e5, hps, hc5⟩ := object_cells HR.out.objects hlt EX.out.bel
            subst hba
            have hob := List.getElem_mem hlt
            have hmk : 0 ≤ s.fObjects[k].fMark := (HP.out.2.2.2.1.2.1 _ hob).1.1
            have Hno := Lib.hid (obs_no HP.out _ hob)
            have Hord := Lib.hid (order_next (l := s.fTypes) hlt)
            have Htn := Lib.hid (told_next B3.out (fun ob h y hy => (obs_no HP.out ob h y hy).or) hlt)
            have Hsn := Lib.hid (shown_next hlt)
            have Hos := Lib.hid (obj_sz (KK.out.ow _ hob))
            have hlo := KK.out.lo
            have hgN := EX.out.gN
            have hmN := EX.out.mN
            have HPR := Lib.hid (hps.mono (Q' := fun q => q < w.heap.size ∧ q ≠ g ∧ q ≠ gm) (fun q _ hl => ⟨hl, by omega, by omega⟩))
            have hle : ((shownO (s.fObjects.take k)).map (transO (orderZ s.fTypes (s.fObjects.take k)))).length ≤ k := told_len
            clear hob hps hE
            generalize s.fObjects[k] = ob at *
            have Y1 := Lib.hid (Box.new wr 78 #[.string ob.fName, .int .i64 ob.fKind, .int .i64 ob.fMark, .int .i64 ob.fType, .int .i64 ob.fValue, .slice a5 ob.fParams.length c5])
            have EX1 := Lib.hid (EX.out.below ((Below.refl wr.heap.size wr).alloc (Nat.le_refl _) (.cells #[.string ob.fName, .int .i64 ob.fKind, .int .i64 ob.fMark, .int .i64 ob.fType, .int .i64 ob.fValue, .slice a5 ob.fParams.length c5] 78)))
            have hfd := fieldHead ob.fName ob.fMark ob.fKind ob.fValue (ob.fParams.length : Int)
            by_cases hs : ob.fMark = 0
            · have hq : decide (0 < ob.fMark) = false := decide_eq_false (by omega)
              have Ho2 := Lib.hid (show orderZ s.fTypes (s.fObjects.take (k + 1)) = orderZ s.fTypes (s.fObjects.take k) by rw [Hord.out, if_neg (fun h => h hs)])
              have Hs2 := Lib.hid (show shownO (s.fObjects.take (k + 1)) = shownO (s.fObjects.take k) by rw [Hsn.out, if_neg (fun h => h hs), List.append_nil])
              clear hs hmk
              go_wp2_with (first
                | (go_at_call 77; refine (iHeadObj _ _ _ _ _ _ _ _ _).mono ?_; rintro e wh ⟨rfl, hbh⟩; have EX2 := Lib.hid (EX1.out.below hbh); clear hbh)
                | (go_at_call 78; refine (iIsShownE _ _ _).mono ?_; rintro e wi ⟨rfl, hbi⟩; have EX3 := Lib.hid (EX2.out.below hbi); clear hbi))
              exact ⟨⟨k + 1, P, _, iv, L, by congr 1, rfl, by omega, by rw [Ho2.out, Hs2.out]; exact EX3.out⟩, by simp [intOf]; omega⟩
            · have hq : decide (0 < ob.fMark) = true := decide_eq_true (by omega)
              have Ho2 := Lib.hid (show orderZ s.fTypes (s.fObjects.take (k + 1)) = visitO s.fTypes (orderZ s.fTypes (s.fObjects.take k)) ob by rw [Hord.out, if_pos hs])
              have Ht2 := Lib.hid (Htn.out hs)
              clear hs hmk
              go_wp2_with (first
                | (go_at_call 77; refine (iHeadObj _ _ _ _ _ _ _ _ _).mono ?_; rintro e wh ⟨rfl, hbh⟩; have EX2 := Lib.hid (EX1.out.below hbh); have Y2 := Lib.hid (Y1.out.below hbh Y1.out.lt); clear hbh)
                | (go_at_call 78; refine (iIsShownE _ _ _).mono ?_; rintro e wi ⟨rfl, hbi⟩; have EX3 := Lib.hid (EX2.out.below hbi); obtain ⟨y0, y1, y2, y3, y4, y5⟩ := box6t (Y2.out.below hbi Y2.out.lt); clear hbi))
              refine (iTellObject s.fTypes NR.out (types_sz KK.out.tw) a2 c2 g gm w.heap.size (fun s w h => iStrClone s w h) (orderZ s.fTypes (s.fObjects.take k)) ob Hos.out.1 Hos.out.2.1 Hos.out.2.2 Hno.out _ wi iv L a5 c5 (HPR.out.below EX3.out.bel) EX3.out.te).mono ?_
              unfold PostOb
              rintro e w5 ⟨iv2, L2, pa, cp, rfl, hte, hop, hov, hT, hcp, hpa, hpr⟩
              have EX5 := Lib.hid (EX3.out.call hte hop hov (EX3.out.told.trans hT) hpa)
              have hvl := OwnG.lt EX3.out.own
              have HPR5 := Lib.hid (hpr.mono (Q' := fun q => (P q ∨ pa = some ⟨q, 0, none⟩) ∧ Value.ownBlock v ≠ some q) (fun q hq _ => ⟨.inr hq, fun e => by have := hvl q e; have := hpa q hq; omega⟩))
              have HCP := Lib.hid hcp
              rw [← Ho2.out] at EX5 HPR5
              rw [← Ho2.out]
              obtain ⟨o', ho'⟩ : ∃ z, z = orderZ s.fTypes (s.fObjects.take (k + 1)) := ⟨_, rfl⟩
              rw [← ho'] at EX5 HPR5 Ht2
              rw [← ho']
              have HO' := Lib.hid ho'
              obtain ⟨i0, hi, hz0, hz1, hz2⟩ := info_parts infoObject
              have Hi := Lib.hid (And.intro hi (And.intro hz0 (And.intro hz1 hz2)))
              clear hte hop hov hT hcp hpa hpr hvl y0 y1 y2 y3 y4 y5 ho' hi hz0 hz1 hz2
              have hlo2 : ((shownO (s.fObjects.take k)).map (transO (orderZ s.fTypes (s.fObjects.take k)))).length ≤ 1048577 := by omega
              generalize (shownO (s.fObjects.take k)).map (transO (orderZ s.fTypes (s.fObjects.take k))) = Lo at *
              have hmW : m ≤ (w5.alloc (.cells #[.string ob.fName, .int .i64 ob.fKind, .int .i64 ob.fMark, .int .i64 (numZ o' ob.fType), .int .i64 ob.fValue, .slice pa ob.fParams.length cp] 78)).heap.size := by have := EX5.out.hm; simp; omega
              go_wp2_with (at_builtin; refine wpList_pushG rfl (.tmp 35) (.tmp 38) _ rfl objectS 78 i0 (.agg #[.string ByteArray.empty, .int .i64 0, .int .i64 0, .int .i64 0, .int .i64 0, .slice none 0 0]) 72 Tryz.underlying30 ?q1 ?q2 ?q3 ?q4 rfl (by decide) (by omega) m (fun q => P q ∨ pa = some ⟨q, 0, none⟩) _ _ Lo rfl ?q5 (transO o' ob) [.string ob.fName, .int .i64 ob.fKind, .int .i64 ob.fMark, .int .i64 (numZ o' ob.fType), .int .i64 ob.fValue, .slice pa ob.fParams.length cp] _ _ rfl ?q6 ?q7 ?q8 ?q9 ?q10 ?_)
              case q1 => exact Hi.out.1
              case q2 => exact Hi.out.2.1
              case q3 => exact Hi.out.2.2.1
              case q4 => exact Hi.out.2.2.2
              case q5 => exact EX5.out.own.alloc _
              case q6 =>
                intro j _
                refine Eq.trans ((Box.new' (g := w5.heap.size) _ 78 #[.string ob.fName, .int .i64 ob.fKind, .int .i64 ob.fMark, .int .i64 (numZ o' ob.fType), .int .i64 ob.fValue, .slice pa ob.fParams.length cp] (by simp)).cell j) ?_
                simp
              case q7 =>
                refine ⟨pa, cp, ?_, ?_, ?_⟩
                · rw [show (transO o' ob).fParams.length = ob.fParams.length from by simp [transO]]
                  rfl
                · exact HPR5.out.below ((Below.refl _ _).alloc (Nat.le_refl _) _)
                · rw [show (transO o' ob).fParams.length = ob.fParams.length from by simp [transO]]
                  exact HCP.out
              case q8 =>
                intro y hy
                simp only [List.mem_cons, List.not_mem_nil, or_false] at hy
                rcases hy with rfl | rfl | rfl | rfl | rfl | rfl <;> rfl
              case q9 => exact hlo2
              case q10 => exact hmW
              intro v6 w6 hown6 hg6 hv6
              have EX6 := Lib.hid ((EX5.out.below ((Below.refl w5.heap.size w5).alloc (Nat.le_refl _) (.cells #[.string ob.fName, .int .i64 ob.fKind, .int .i64 ob.fMark, .int .i64 (numZ o' ob.fType), .int .i64 ob.fValue, .slice pa ob.fParams.length cp] 78))).push hown6 hg6 (by simpa using hv6))
              rw [← Ht2.out, HO'.out] at EX6
              clear hown6 hg6 hv6 hlo2 hmW
              go_wp2_with fail
              exact ⟨⟨k + 1, _, _, iv2, L2, by congr 1, rfl, by omega, EX6.out⟩, by simp [intOf]; omega⟩
          · have hkl : k = s.fObjects.length := by omega
            have EZ := Lib.hid (show ExI s.fTypes a2 c2 w g gm m (scopeC s a1 a2 a3 a4 c1 c2 c3 c4) P v wr iv (orderZ s.fTypes s.fObjects) L ((shownO s.fObjects).map (transO (orderZ s.fTypes s.fObjects))) from by
              have := EX.out
              rw [hkl, List.take_length] at this
              exact this)
            have hlt' : ¬ (k : Int) < (s.fObjects.length : Int) := by omega
            clear hE EX hkl hlt hk hlg hlm
            have hL := table_of B3.out EZ.out.told
            subst hL
            obtain ⟨n2, hn2⟩ : ∃ z, z = tableZ s.fTypes (orderZ s.fTypes s.fObjects) := ⟨_, rfl⟩
            obtain ⟨n3, hn3⟩ : ∃ z, z = (shownO s.fObjects).map (transO (orderZ s.fTypes s.fObjects)) := ⟨_, rfl⟩
            rw [← hn2, ← hn3] at EZ
            have HN := Lib.hid (And.intro hn2 hn3)
            clear hn2 hn3
            obtain ⟨ta, tc, hiv0, _, _, _⟩ := OwnG.rows (Q := Any) EZ.out.te.own (fun _ _ _ => trivial) (fun _ _ => trivial)
            obtain ⟨oa, oc, hv0, _, _, _⟩ := OwnG.rows (Q := Any) EZ.out.own (fun _ _ _ => trivial) (fun _ _ => trivial)
            subst hiv0 hv0
            have SB := Lib.hid EZ.out.sb
            have ZB := Lib.hid EZ.out.zb
            have GB := Lib.hid EZ.out.te.box
            have hgN := EZ.out.gN
            have hnM := EZ.out.nM
            have EX := Lib.hid (fun W (hb : Below wr.drew.heap.size wr.drew W) => (EZ.out.below (belowN (Below.refl wr.heap.size wr) 1)).below hb)
            have hof : ∀ W v0 v1 v2 v3 v4, Only (w.heap.size + 1) W (((((W.setCell ⟨w.heap.size + 1, 0, none⟩ v0).setCell ⟨w.heap.size + 1, 1, none⟩ v1).setCell ⟨w.heap.size + 1, 2, none⟩ v2).setCell ⟨w.heap.size + 1, 3, none⟩ v3).setCell ⟨w.heap.size + 1, 4, none⟩ v4) := fun W v0 v1 v2 v3 v4 => (((((Only.refl _ _).set 0 _).set 1 _).set 2 _).set 3 _).set 4 _
            clear EZ
            go_wp2_with fail
            --E14<
            refine wp_region_held_drew (S := fun w' => w'.cell? ⟨w.heap.size, 0, none⟩ = some (.string s.fName) ∧ w'.cell? ⟨g, 1, none⟩ = some (.slice ta n2.length tc)) (by kernel_rfl) ?_ (fun hHeld => ?_)
            · try dsimp only
              exact ⟨SB.out.cell 0, GB.out.cell 1⟩
            refine wpAnyH_take (i := 0) (oi := { dst := some 41, op := Op.fieldAddr 33 (Operand.tmp 1) 0, type := 0, pos := "l4_scope.go:258", after := #[], guard := none }) (v := .pointer (some ⟨w.heap.size, 0, none⟩)) rfl (by kernel_rfl) (by kernel_rfl) (by kernel_rfl) (fun _ _ _ h => h) (Or.inl ⟨by rfl, ?_⟩) (by assumption) ?_
            · intro wS hSw
              try dsimp only at hSw
              go_simp
            try simp only [Act.put, List.setIfInBounds_toArray, List.set_cons_zero, List.set_cons_succ]
            refine wpAnyH_take (i := 1) (oi := { dst := some 42, op := Op.load 9 (Operand.tmp 41), type := 9, pos := "l4_scope.go:258", after := #[{ on := 0, ground := Ground.data }], guard := none }) (v := .string s.fName) rfl (by kernel_rfl) (by kernel_rfl) (by kernel_rfl) (fun _ _ _ h => h) (Or.inl ⟨by rfl, ?_⟩) (by assumption) ?_
            · intro wS hSw
              try dsimp only at hSw
              go_simp
            try simp only [Act.put, List.setIfInBounds_toArray, List.set_cons_zero, List.set_cons_succ]
            refine wpAnyH_take (i := 3) (oi := { dst := some 44, op := Op.fieldAddr 116 (Operand.tmp 3) 1, type := 0, pos := "l4_scope.go:258", after := #[], guard := none }) (v := .pointer (some ⟨g, 1, none⟩)) rfl (by kernel_rfl) (by kernel_rfl) (by kernel_rfl) (fun _ _ _ h => h) (Or.inl ⟨by rfl, ?_⟩) (by assumption) ?_
            · intro wS hSw
              try dsimp only at hSw
              go_simp
            try simp only [Act.put, List.setIfInBounds_toArray, List.set_cons_zero, List.set_cons_succ]
            refine wpAnyH_take (i := 4) (oi := { dst := some 45, op := Op.load 29 (Operand.tmp 44), type := 29, pos := "l4_scope.go:258", after := #[{ on := 3, ground := Ground.data }], guard := none }) (v := .slice ta n2.length tc) rfl (by kernel_rfl) (by kernel_rfl) (by kernel_rfl) (fun _ _ _ h => h) (Or.inl ⟨by rfl, ?_⟩) (by assumption) ?_
            · intro wS hSw
              try dsimp only at hSw
              go_simp
            try simp only [Act.put, List.setIfInBounds_toArray, List.set_cons_zero, List.set_cons_succ]
            refine wpAnyH_take (i := 5) (oi := { dst := some 46, op := Op.move (Operand.tmp 5), type := 30, pos := "l4_scope.go:258", after := #[], guard := none }) (v := .slice oa n3.length oc) rfl (by kernel_rfl) (by kernel_rfl) (by kernel_rfl) (fun _ _ _ h => h) (Or.inl ⟨by rfl, ?_⟩) (by assumption) ?_
            · intro wS hSw
              try dsimp only at hSw
              go_simp
            try simp only [Act.put, List.setIfInBounds_toArray, List.set_cons_zero, List.set_cons_succ]
            refine wpAnyH_ready (rs := [2]) (by kernel_rfl) (by simp) ?_
            refine AllReadyH.cons (o := { dst := some 43, op := Op.call { callee := Callee.value (Operand.func 80), args := #[Operand.tmp 42], argTypes := #[9] }, type := 9, pos := "l4_scope.go:258", after := #[{ on := 1, ground := Ground.data }], guard := none }) rfl (fun K hK => ?_) AllReadyH.nil
            go_simp
            go_at_call 80
            refine (iStrClone _ _ hnm).mono ?_
            rintro e w5 ⟨rfl, hb5⟩
            have E5 := Lib.hid (EX.out w5 hb5)
            have SB5 := Lib.hid ((SB.out.drewN 1).below hb5 SB.out.lt)
            have ZB5 := Lib.hid ((ZB.out.drewN 1).below hb5 ZB.out.lt)
            have G5 := Lib.hid ((GB.out.drewN 1).below hb5 GB.out.lt)
            clear hb5
            have z0 : _ = some (Value.string ⟨#[]⟩) := ZB5.out.cell 0
            have z1 : _ = some (Value.slice none 0 0) := ZB5.out.cell 1
            have z2 : _ = some (Value.slice none 0 0) := ZB5.out.cell 2
            have z3 : _ = some (Value.slice none 0 0) := ZB5.out.cell 3
            have z4 : _ = some (Value.slice none 0 0) := ZB5.out.cell 4
            have zf := ZB5.out.free
            refine hK.out _ _ ?_ (fun hHeld2 => ?_)
            · try dsimp only
              exact ⟨SB5.out.cell 0, G5.out.cell 1⟩
            clear hK K hHeld
            have hHeld := hHeld2
            clear hHeld2
            try simp only [Act.put, List.setIfInBounds_toArray, List.set_cons_zero, List.set_cons_succ]
            refine wpAnyH_take (i := 6) (oi := { dst := some 47, op := Op.build 33 #[(0, Operand.tmp 43), (2, Operand.tmp 45), (3, Operand.tmp 46)], type := 33, pos := "l4_scope.go:258", after := #[{ on := 2, ground := Ground.data }, { on := 4, ground := Ground.data }, { on := 5, ground := Ground.data }], guard := none }) (v := .agg #[.string s.fName, .slice none 0 0, .slice ta n2.length tc, .slice oa n3.length oc, .slice none 0 0]) rfl (by kernel_rfl) (by kernel_rfl) (by kernel_rfl) (fun _ _ _ h => h) (Or.inl ⟨by rfl, ?_⟩) (by assumption) ?_
            · intro wS hSw
              try dsimp only at hSw
              go_simp
            try simp only [Act.put, List.setIfInBounds_toArray, List.set_cons_zero, List.set_cons_succ]
            refine wpAnyH_ready (rs := [7]) (by kernel_rfl) (by simp) ?_
            refine AllReadyH.cons (o := { dst := none, op := Op.store 33 (Operand.tmp 2) (Operand.tmp 47), type := 0, pos := "l4_scope.go:258", after := #[{ on := 6, ground := Ground.data }, { on := 2, ground := Ground.chain }, { on := 0, ground := Ground.phase }, { on := 1, ground := Ground.phase }, { on := 2, ground := Ground.phase }, { on := 3, ground := Ground.phase }, { on := 4, ground := Ground.phase }, { on := 5, ground := Ground.phase }, { on := 6, ground := Ground.phase }], guard := none }) rfl (fun K hK => ?_) AllReadyH.nil
            go_simp
            refine hK.out _ _ ?_ (fun hHeld2 => ?_)
            · try dsimp only
              exact ⟨(SB5.out.only (hof w5 _ _ _ _ _) (by omega)).cell 0, (G5.out.only (hof w5 _ _ _ _ _) (by omega)).cell 1⟩
            clear hK K hHeld
            have hHeld := hHeld2
            clear hHeld2
            try simp only [Act.put, List.setIfInBounds_toArray, List.set_cons_zero, List.set_cons_succ]
            refine wpAnyH_done (by kernel_rfl) ?_ _
            --E14>
            go_wp2_with fail
            refine bodyPost_ret (results_one rfl Tryz.underlying33 rfl _ _ (w.heap.size + 1) #[.string s.fName, .slice none 0 0, .slice ta n2.length tc, .slice oa n3.length oc, .slice none 0 0] rfl 33 ?qbox 5 (by kernel_rfl) rfl) rfl ?_
            case qbox => exact ((((ZB5.out.set 0 _).set 1 _).set 2 _).set 3 _).set 4 _
            have ho := hof w5 (.string s.fName) (.slice none 0 0) (.slice ta n2.length tc) (.slice oa n3.length oc) (.slice none 0 0)
            generalize (((((w5.setCell ⟨w.heap.size + 1, 0, none⟩ (.string s.fName)).setCell ⟨w.heap.size + 1, 1, none⟩ (.slice none 0 0)).setCell ⟨w.heap.size + 1, 2, none⟩ (.slice ta n2.length tc)).setCell ⟨w.heap.size + 1, 3, none⟩ (.slice oa n3.length oc)).setCell ⟨w.heap.size + 1, 4, none⟩ (.slice none 0 0)) = w6 at *
            have hlt5 := OwnG.lt E5.out.own
            have hT := OwnG.keep E5.out.te.own (fun q hq hl => ho.block q hl (fun e => by
              injection e with e
              rcases hq with h1 | h1
              · exact h1.2 (.inl (.inr (.inr (.inr e))))
              · exact E5.out.te.nx q h1 (.inl (.inr (.inr (.inr e)))))) ho.size
            have hO := OwnG.keep E5.out.own (fun q hq hl => ho.block q hl (fun e => by
              injection e with e
              rcases hq with h1 | h1
              · have := E5.out.pm q h1; omega
              · have := hlt5 q h1; omega)) ho.size
            obtain ⟨ta', tc', hiv, t1, t2, t3⟩ := OwnG.rows (Q := fun q => w.heap.size ≤ q) hT (fun q hq _ => hq.1) (fun q hq => E5.out.iN q hq)
            obtain ⟨oa', oc', hv, u1, u2, u3⟩ := OwnG.rows (Q := fun q => w.heap.size ≤ q) hO (fun q hq _ => by have := E5.out.pm q hq; omega) (fun q hq => by have := hlt5 q hq; omega)
            have hbe := belowOnlyE E5.out.bel (Nat.le_refl _) ho (by omega)
            clear hT hO ho
            injection hiv with k1 _ k2
            injection hv with k3 _ k4
            subst k1 k2 k3 k4
            obtain ⟨hn2, hn3⟩ := HN.out
            subst hn2 hn3
            show PostExp s.fName s.fTypes s.fObjects w _ _
            unfold PostExp
            exact ⟨ta, tc, oa, oc, rfl, ⟨t1, t2⟩, ⟨u1, u2⟩, t3, u3, hbe⟩
end Go.Proofs.YtaccifjkeblhpaaGreat

namespace Go.Proofs.YtaccifjkeblhpaaGreat
open Go.ChangeShapes Go.WideShapes Go.ChangeAt Go.RowKit
set_option maxRecDepth 100000

set_option maxHeartbeats 8000000 in
theorem iIsExport (s : ScopeD) (a1 a2 a3 a4 : Option Addr) (w : World) (K : ScopeK s) (hr : ScopeR Any w a1 a2 a3 a4 s) :
    Calls Tryz.prog 43 #[.agg (scopeC s a1 a2 a3 a4 s.fImports.length s.fTypes.length s.fObjects.length s.fUses.length)] w fun e w' => e = .returned (.tuple #[.bool (isExpB s), .bool (scopeB s)]) ∧ Below w.heap.size w w' := by
  have B0 := Lib.hid ((Below.refl w.heap.size w).alloc (Nat.le_refl _) (.cells (scopeC s a1 a2 a3 a4 s.fImports.length s.fTypes.length s.fObjects.length s.fUses.length) 33))
  have X0 := Lib.hid (Box.new w 33 (scopeC s a1 a2 a3 a4 s.fImports.length s.fTypes.length s.fObjects.length s.fUses.length))
  have R0 := Lib.hid (hr.below B0.out)
  have HG := Lib.hid (iGoodScope s a1 a2 a3 a4 _ _ _ _ _ (K.m R0.out))
  have KK := Lib.hid K
  clear hr K
  go_enter Tryz.func43, Tryz.ntmps43
  go_wp2_with fail
  refine HG.out.mono ?_
  rintro e w1 ⟨rfl, hb⟩
  have B1 := Lib.hid (B0.out.trans (hb.mono B0.out.size))
  have X1 := Lib.hid (X0.out.below hb X0.out.lt)
  have R1 := Lib.hid (R0.out.below hb)
  clear hb HG B0 X0 R0
  by_cases hp : scopeP s
  · obtain ⟨q1, q2⟩ := isExp_yes hp
    have HQ := Lib.hid (And.intro q1 q2)
    obtain ⟨n2, hn2⟩ : ∃ n, n = (tableZ s.fTypes (orderZ s.fTypes s.fObjects)).length := ⟨_, rfl⟩
    obtain ⟨n3, hn3⟩ : ∃ n, n = ((shownO s.fObjects).map (transO (orderZ s.fTypes s.fObjects))).length := ⟨_, rfl⟩
    have HE := Lib.hid (fun W (hW : ScopeR Any W a1 a2 a3 a4 s) => by
      have h := iExported s a1 a2 a3 a4 s.fImports.length s.fTypes.length s.fObjects.length s.fUses.length W hp KK.out hW
      unfold PostExp at h
      rw [← hn2, ← hn3] at h
      exact h)
    have HS := Lib.hid (fun W b2 b3 d2 d3 (hA : ScopeR Any W none b2 b3 none (expD s)) (hW : ScopeR Any W a1 a2 a3 a4 s) => by
      have h : Calls Tryz.prog 95 #[.agg #[.string s.fName, .slice none 0 0, .slice b2 (tableZ s.fTypes (orderZ s.fTypes s.fObjects)).length d2, .slice b3 ((shownO s.fObjects).map (transO (orderZ s.fTypes s.fObjects))).length d3, .slice none 0 0], .agg (scopeC s a1 a2 a3 a4 s.fImports.length s.fTypes.length s.fObjects.length s.fUses.length)] W (fun e w' => e = .returned (.bool (eqB (expD s) s)) ∧ Below W.heap.size W w') := iSameScope (expD s) s none b2 b3 none a1 a2 a3 a4 0 d2 d3 0 s.fImports.length s.fTypes.length s.fObjects.length s.fUses.length W (exp_k hp KK.out) hA hW
      rw [← hn2, ← hn3] at h
      exact h)
    clear hn2 hn3
    rw [q1]
    clear q1 q2 hp
    generalize eqB (expD s) s = qe at *
    obtain ⟨x0, x1, x2, x3, x4⟩ := box5 X1.out
    have hlt := X1.out.lt
    have RD := Lib.hid R1.out.drew
    go_wp2_with fail
    go_region_held3 (fun w' => w'.cell? ⟨w.heap.size, 0, none⟩ = some (.string s.fName) ∧ w'.cell? ⟨w.heap.size, 1, none⟩ = some (.slice a1 s.fImports.length s.fImports.length) ∧ w'.cell? ⟨w.heap.size, 2, none⟩ = some (.slice a2 s.fTypes.length s.fTypes.length) ∧ w'.cell? ⟨w.heap.size, 3, none⟩ = some (.slice a3 s.fObjects.length s.fObjects.length) ∧ w'.cell? ⟨w.heap.size, 4, none⟩ = some (.slice a4 s.fUses.length s.fUses.length))
      (first
        | assumption
        | exact ⟨x0, x1, x2, x3, x4⟩
        | (go_split_ands
           refine ⟨?_, ?_, ?_, ?_, ?_⟩ <;> (rw [hbu.cell (by simp at *; omega)]; assumption))
        | (go_split_ands
           refine ⟨?_, ?_, ?_, ?_, ?_⟩ <;> (rw [hbt.cell (by simp at *; omega)]; assumption)))
      (first
        | (go_at_call 28; refine (HE.out _ RD.out).mono ?_; rintro e wt ⟨b2, d2, b3, d3, rfl, _, _, ht, hob, hbt⟩; have hsz := hbt.size)
        | (go_at_call 95; refine (HS.out _ b2 b3 d2 d3 ⟨Rows.nil, ht.any, hob.any, Rows.nil⟩ (RD.out.below hbt)).mono ?_; rintro e wu ⟨rfl, hbu⟩))
    have hbx := (Below.refl w1.heap.size w1).drew.trans (hbt.trans (hbu.mono hbt.size))
    clear x0 x1 x2 x3 x4
    go_wp2_with fail
    go_ret2
    exact ⟨by rw [HQ.out.1, HQ.out.2]; rfl, B1.out.trans (hbx.mono B1.out.size)⟩
  · obtain ⟨q1, q2⟩ := isExp_no hp
    have HQ := Lib.hid (And.intro q1 q2)
    rw [q1]
    clear q1 q2 hp
    go_wp2_with fail
    go_ret2
    exact ⟨by rw [HQ.out.1, HQ.out.2]; rfl, B1.out⟩
end Go.Proofs.YtaccifjkeblhpaaGreat
