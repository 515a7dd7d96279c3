
/-
  What is proved: append of a whole row of params to an empty row of the call's own; the contract of the model's l4OwnObject; objects told anew, as they lie in memory; what stays of them where types are numbered; what stays of objects told anew where numbers are set in place. No condition beside what each theorem states.
-/
import Derived.Test.YtbpbebhnledgnaaGreatExp
import Derived.Test.YtbpbebhnledgnaaGreatPushAll
import Derived.Test.YtbpbebhnledgnaaGreatMark
import Derived.Deep.Upon
import Derived.Test.YtbpbebhnledgnaaGreatSVisit
import Derived.Deep.AppendLies
namespace Go.Proofs.YtbpbebhnledgnaaGreat
open Go.ChangeShapes Go.WideShapes Go.ChangeAt Go.RowKit
set_option maxRecDepth 100000

def paramCells (f : ParamD) : List Value := [.string f.fName, .bool f.fByVar, .int .i64 f.fType]
theorem flatP_len : ∀ l : List ParamD, (l.flatMap paramCells).length = l.length * 3
  | [] => rfl
  | x :: l => by rw [List.flatMap_cons, List.length_append, flatP_len l, List.length_cons]; show 3 + _ = _; omega
theorem flatP_at : ∀ (l : List ParamD) (k : Nat) (h : k < l.length) (j : Nat), j < 3 → (l.flatMap paramCells)[k * 3 + j]? = (paramCells l[k])[j]?
  | x :: l, 0, _, j, hj => by
    rw [List.flatMap_cons, List.getElem?_append_left (by show 0 * 3 + j < 3; omega)]
    simp
  | x :: l, k + 1, h, j, hj => by
    rw [List.flatMap_cons, List.getElem?_append_right (by show 3 ≤ _; omega)]
    have := flatP_at l k (by simpa using h) j hj
    rw [List.getElem_cons_succ, ← this]
    congr 1
    show (k + 1) * 3 + j - 3 = k * 3 + j
    omega
theorem wpList_pushParams {ops : Array Oper} {rest : List Oper} {o : Oper} {a : Act} {Q : Exit → Act → World → Prop} (hgd : o.guard = none) (s x : Operand)
    (ho : o.op = .call { callee := .builtin .append, args := #[s, x], argTypes := #[84, 84] })
    (B : Nat) (w : World) (v : Value) (hs : a.eval s = v) (hown : OwnG paramS 95 B Nowhere w v []) (m : List ParamD) (ao : Option Addr) (c : Nat) (hx : a.eval x = .slice ao m.length c) (hN : Rows paramS Any w ao m)
    (h63 : m.length ≤ 1000) (hbase : B ≤ w.heap.size)
    (h : ∀ v' w', OwnG paramS 95 B Nowhere w' v' m → w.grownBy w' v.ownBlock → (v'.ownBlock = v.ownBlock ∨ v'.ownBlock = some w.heap.size) → wpList Tryz.prog ops Q rest (a.put o.dst v') w') : wpList Tryz.prog ops Q (o :: rest) a w := by
  obtain ⟨i0, hi, hz0, hz1, hz2⟩ := info_parts infoParam
  obtain ⟨xs, r1, r2⟩ := hown.row
  have hxs : xs = [] := List.eq_nil_of_length_eq_zero (by have := r1.1; simpa using this)
  subst hxs
  cases ao with
  | some ad =>
    refine wpList_append_own_at _ hgd s x 84 ho B 95 i0 (.agg #[.string ByteArray.empty, .bool false, .int .i64 0]) 3 32 Tryz.underlying84 hi hz0 hz1 hz2 rfl (by decide) v 0 [] hs r1 ad m.length c (m.flatMap paramCells) hx (flatP_len m) ?_ ?_ (by unfold maxLen; omega) (by omega) hbase (fun v' w' k1 k2 _ k4 => h v' w' (OwnG.of_row (xs := m.flatMap paramCells) (by have k5 := k1; simp only [Nat.zero_add, List.nil_append] at k5; exact k5) (fun i hi => ⟨paramCells m[i], rfl, fun j hj => flatP_at m i hi j hj⟩)) k2 k4)
    · intro j u hu
      by_cases hj : j < m.length * 3
      · have hk : j / 3 < m.length := by omega
        obtain ⟨b', o', cs, e, _, _, hc, hat⟩ := hN (j / 3) hk
        cases e
        obtain rfl : cs = paramCells m[j / 3] := hat
        have h2 := flatP_at m (j / 3) hk (j % 3) (Nat.mod_lt _ (by decide))
        rw [show j / 3 * 3 + j % 3 = j by omega, hu] at h2
        have h3 := hc (j % 3) (Nat.mod_lt _ (by decide))
        rw [show paramS.n = 3 from rfl, ← h2] at h3
        rw [show (⟨b', o', none⟩ : Addr).add j = ⟨b', o' + j, none⟩ by unfold Addr.add; split <;> simp_all, ← h3]
        congr 2
        omega
      · rw [List.getElem?_eq_none (by rw [flatP_len]; omega)] at hu
        cases hu
    · intro y hy
      obtain ⟨f, _, hf⟩ := List.mem_flatMap.1 hy
      simp only [paramCells, List.mem_cons, List.not_mem_nil, or_false] at hf
      rcases hf with rfl | rfl | rfl <;> rfl
  | none =>
    have hm : m = [] := by
      cases m with
      | nil => rfl
      | cons y m =>
        obtain ⟨b, o', cs, e, _⟩ := hN 0 (by simp)
        cases e
    subst hm
    obtain ⟨ba, cc, hv, hc, _, _⟩ := hown.rows (Q := Any) (fun _ _ _ => trivial) (fun _ _ => trivial)
    refine wpList_plain hgd fun _ hK => ?_
    have hr := run_append_nothing (P := Tryz.prog) w 84 84 o.type 95 i0 Tryz.underlying84 hi ba 0 cc hc (.slice none 0 c) (Src.ofNil _ Tryz.underlying84 c)
    unfold Oper.wp execOp
    simp only [ho, resolve, invoke, builtin, Sem.run_bind, Sem.run_pure, Result.andThen_ok, List.map_toArray, List.map_cons, List.map_nil, hs, hv, hx, List.length_nil, hr]
    exact hK _ _ (h _ w (by rw [show Value.slice ba 0 cc = v from hv.symm]; exact hown) ⟨rfl, rfl, rfl, Nat.le_refl _, fun _ _ _ => rfl⟩ (.inl (by rw [hv]; rfl)))

theorem box6o {w : World} {g : Nat} {t : TypeId} {c0 c1 c2 c3 c4 c5 : Value} (h : Box w g t #[c0, c1, c2, c3, c4, c5]) : w.cell? ⟨g, 0, none⟩ = some c0 ∧ w.cell? ⟨g, 1, none⟩ = some c1 ∧ w.cell? ⟨g, 2, none⟩ = some c2 ∧ w.cell? ⟨g, 3, none⟩ = some c3 ∧ w.cell? ⟨g, 4, none⟩ = some c4 ∧ w.cell? ⟨g, 5, none⟩ = some c5 := ⟨h.cell 0, h.cell 1, h.cell 2, h.cell 3, h.cell 4, h.cell 5⟩
set_option maxHeartbeats 4000000 in
theorem sOwnO (ob : ObjectD) (pa : Option Addr) (pc : Nat) (w : World) (hl : ob.fParams.length ≤ 1000) (hr : Rows paramS Any w pa ob.fParams) :
    Calls Tryz.prog 63 #[.agg #[.string ob.fName, .int .i64 ob.fKind, .int .i64 ob.fMark, .int .i64 ob.fType, .int .i64 ob.fValue, .slice pa ob.fParams.length pc]] w fun e w' => ∃ fa fc, e = .returned (.agg #[.string ob.fName, .int .i64 ob.fKind, .int .i64 ob.fMark, .int .i64 ob.fType, .int .i64 ob.fValue, .slice fa ob.fParams.length fc]) ∧ OwnG paramS 95 w.heap.size Nowhere w' (.slice fa ob.fParams.length fc) ob.fParams ∧ Below w.heap.size w w' := by
  have X0 := Lib.hid (((Box.new w 86 #[.string ob.fName, .int .i64 ob.fKind, .int .i64 ob.fMark, .int .i64 ob.fType, .int .i64 ob.fValue, .slice pa ob.fParams.length pc]).alloc (.cells #[.string ByteArray.empty, .int .i64 0, .int .i64 0, .int .i64 0, .int .i64 0, .slice none 0 0] 86)).alloc (.cells #[] 95))
  have Z0 := Lib.hid (show Box (((w.alloc (.cells #[.string ob.fName, .int .i64 ob.fKind, .int .i64 ob.fMark, .int .i64 ob.fType, .int .i64 ob.fValue, .slice pa ob.fParams.length pc] 86)).alloc (.cells #[.string ByteArray.empty, .int .i64 0, .int .i64 0, .int .i64 0, .int .i64 0, .slice none 0 0] 86)).alloc (.cells #[] 95)) (w.heap.size + 1) 86 #[.string ByteArray.empty, .int .i64 0, .int .i64 0, .int .i64 0, .int .i64 0, .slice none 0 0] from (Box.new' (g := w.heap.size + 1) (w.alloc (.cells #[.string ob.fName, .int .i64 ob.fKind, .int .i64 ob.fMark, .int .i64 ob.fType, .int .i64 ob.fValue, .slice pa ob.fParams.length pc] 86)) _ _ (by simp)).alloc _)
  have F0 := Lib.hid (show OwnG paramS 95 (w.heap.size + 2) Nowhere (((w.alloc (.cells #[.string ob.fName, .int .i64 ob.fKind, .int .i64 ob.fMark, .int .i64 ob.fType, .int .i64 ob.fValue, .slice pa ob.fParams.length pc] 86)).alloc (.cells #[.string ByteArray.empty, .int .i64 0, .int .i64 0, .int .i64 0, .int .i64 0, .slice none 0 0] 86)).alloc (.cells #[] 95)) (.slice (some ⟨w.heap.size + 2, 0, none⟩) 0 0) [] from .inr ⟨w.heap.size + 2, 0, #[], rfl, Nat.le_refl _, Box.new' _ _ _ (by simp), Nat.le_refl _, by decide, by simp, fun i hi _ => absurd hi (by simp)⟩)
  have B0 := Lib.hid (show Below w.heap.size w (((w.alloc (.cells #[.string ob.fName, .int .i64 ob.fKind, .int .i64 ob.fMark, .int .i64 ob.fType, .int .i64 ob.fValue, .slice pa ob.fParams.length pc] 86)).alloc (.cells #[.string ByteArray.empty, .int .i64 0, .int .i64 0, .int .i64 0, .int .i64 0, .slice none 0 0] 86)).alloc (.cells #[] 95)) from (((Below.refl w.heap.size w).alloc (Nat.le_refl _) _).alloc (by simp) _).alloc (by simp; omega) _)
  have R0 := Lib.hid (hr.below B0.out)
  have x5 : _ = some (Value.slice pa ob.fParams.length pc) := X0.out.cell 5
  have hs0 : w.heap.size + 2 ≤ (((w.alloc (.cells #[.string ob.fName, .int .i64 ob.fKind, .int .i64 ob.fMark, .int .i64 ob.fType, .int .i64 ob.fValue, .slice pa ob.fParams.length pc] 86)).alloc (.cells #[.string ByteArray.empty, .int .i64 0, .int .i64 0, .int .i64 0, .int .i64 0, .slice none 0 0] 86)).alloc (.cells #[] 95)).heap.size := by simp
  clear hr
  go_enter Tryz.func63, Tryz.ntmps63
  go_wp2_with (at_builtin; refine wpList_pushParams rfl (.tmp 3) (.tmp 5) rfl (w.heap.size + 2) _ _ rfl F0.out ob.fParams pa pc rfl R0.out hl hs0 ?_)
  intro v1 w1 hown1 hg1 _
  have B1 := Lib.hid (B0.out.grown hg1 B0.out.size (fun q hq => by rw [ownBlock_slice] at hq; injection hq with hq; omega))
  have hX1 : Box w1 w.heap.size 86 #[.string ob.fName, .int .i64 ob.fKind, .int .i64 ob.fMark, .int .i64 ob.fType, .int .i64 ob.fValue, .slice pa ob.fParams.length pc] := (hg1.block w.heap.size X0.out.lt (fun e => by rw [ownBlock_slice] at e; injection e with e; omega)).trans X0.out
  have hZ1 : Box w1 (w.heap.size + 1) 86 #[.string ByteArray.empty, .int .i64 0, .int .i64 0, .int .i64 0, .int .i64 0, .slice none 0 0] := (hg1.block (w.heap.size + 1) Z0.out.lt (fun e => by rw [ownBlock_slice] at e; injection e with e; omega)).trans Z0.out
  obtain ⟨fa, fc, rfl, hfle, _, _⟩ := OwnG.rows (Q := Any) hown1 (fun _ _ _ => trivial) (fun _ _ => trivial)
  have X1 := Lib.hid hX1
  have Z1 := Lib.hid hZ1
  have F1 := Lib.hid hown1
  obtain ⟨c0, c1, c2, c3, c4, c5⟩ := box6o hX1
  obtain ⟨z0, z1, z2, z3, z4, z5⟩ := box6o hZ1
  have f5 := hX1.free
  have fz := hZ1.free
  clear X0 Z0 F0 R0 B0 x5 hg1 hown1 hX1 hZ1
  go_wp2_with fail
  refine bodyPost_ret (results_one rfl Tryz.underlying86 rfl _ _ (w.heap.size + 1) #[.string ob.fName, .int .i64 ob.fKind, .int .i64 ob.fMark, .int .i64 ob.fType, .int .i64 ob.fValue, .slice fa ob.fParams.length fc] rfl 86 ?qbox 6 sizeObject rfl) rfl ?_
  case qbox => exact ((((((Z1.out.only ((Only.refl w.heap.size w1).set 5 _) (by omega)).set 0 _).set 1 _).set 2 _).set 3 _).set 4 _).set 5 _
  have hab : Above (w.heap.size + 2) w1 (((((((w1.setCell ⟨w.heap.size, 5, none⟩ (.slice fa ob.fParams.length fc)).setCell ⟨w.heap.size + 1, 0, none⟩ (.string ob.fName)).setCell ⟨w.heap.size + 1, 1, none⟩ (.int .i64 ob.fKind)).setCell ⟨w.heap.size + 1, 2, none⟩ (.int .i64 ob.fMark)).setCell ⟨w.heap.size + 1, 3, none⟩ (.int .i64 ob.fType)).setCell ⟨w.heap.size + 1, 4, none⟩ (.int .i64 ob.fValue)).setCell ⟨w.heap.size + 1, 5, none⟩ (.slice fa ob.fParams.length fc)) := ((((((((Above.refl _ _).set (by omega) _ _).set (by omega) _ _).set (by omega) _ _).set (by omega) _ _).set (by omega) _ _).set (by omega) _ _).set (by omega) _ _)
  refine ⟨fa, fc, rfl, (F1.out.keep (fun q hq hl => hab.keep q (by
    rcases hq with hq | hq
    · exact hq.elim
    · exact (F1.out.lt q hq).1) hl) hab.size).lower (by omega), ?_⟩
  exact ((((((B1.out.setCell (Nat.le_refl _) _).setCell (p := ⟨w.heap.size + 1, 0, none⟩) (by simp) _).setCell (p := ⟨w.heap.size + 1, 1, none⟩) (by simp) _).setCell (p := ⟨w.heap.size + 1, 2, none⟩) (by simp) _).setCell (p := ⟨w.heap.size + 1, 3, none⟩) (by simp) _).setCell (p := ⟨w.heap.size + 1, 4, none⟩) (by simp) _).setCell (p := ⟨w.heap.size + 1, 5, none⟩) (by simp) _
end Go.Proofs.YtbpbebhnledgnaaGreat

namespace Go.Proofs.YtbpbebhnledgnaaGreat
open Go.ChangeShapes Go.WideShapes Go.ChangeAt Go.RowKit
set_option maxRecDepth 100000

theorem step_pushO {Pr : Program} {T : Type} {ops : Array Oper} {o : Oper} {a : Act} {K : Act → World → Prop} {Q : Exit → Act → World → Prop} {E : Prop} (hgd : o.guard = none) (s x : Operand) (t : TypeId)
    (ho : o.op = .call { callee := .builtin .append, args := #[s, x], argTypes := #[t, t] }) (S : Shape T) (e : TypeId) (i : TypeInfo) (z : Value) (bytes : Nat) (ht : Pr.underlying t = some (.slice e)) (hi : Pr.info? e = some i) (hz : i.zero = some z) (hsize : i.size = S.n) (hby : i.bytes = bytes) (hzs : z.cells.size = S.n) (hsz : 0 < S.n) (hb1 : bytes ≤ 1000)
    (B : Nat) (P : Nat → Prop) (w : World) (v : Value) (l : List T) (hs : a.eval s = v) (hown : OwnG S e B P w v l) (u : T) (cs : List Value) (g c : Nat) (hx : a.eval x = .slice (some ⟨g, 0, none⟩) 1 c) (hg : ∀ j, j < S.n → w.cell? ⟨g, j, none⟩ = cs[j]?) (hu : S.At (fun q => P q ∧ v.ownBlock ≠ some q) w cs u) (h1 : ∀ y ∈ cs, y.oneCell' = true)
    (h63 : l.length ≤ 1048577) (hbase : B ≤ w.heap.size)
    (h : ∀ va vn vc w', OwnG S e B P w' (.slice va vn vc) (l ++ [u]) → w.grownBy w' v.ownBlock → ((Value.slice va vn vc).ownBlock = v.ownBlock ∨ (Value.slice va vn vc).ownBlock = some w.heap.size) → K (a.put o.dst (.slice va vn vc)) w') : if Region.wanted o (yielded ops a.tmps) = true then Oper.wp Pr o a w K Q else E := by
  obtain ⟨xs, r1, r2⟩ := hown.row
  have hl := S.len hu
  refine step_append_lies w hgd s x t ho B e i z S.n bytes ht hi hz hsize hby hzs hsz v l.length xs hs r1 ⟨g, 0, none⟩ 1 c cs hx (by rw [hl, Nat.one_mul]) (fun j y hj => ?_) h1 (by omega) (by unfold maxLen; omega) ?_ hbase _ rfl (fun g' cap w' k1 k2 k3 _ => ?_)
  · have e : (⟨g, 0, none⟩ : Addr).add j = ⟨g, j, none⟩ := by unfold Addr.add; split <;> simp_all
    have hj2 : j < cs.length := by
      by_cases h : j < cs.length
      · exact h
      · rw [List.getElem?_eq_none (by omega)] at hj; cases hj
    rw [e, hg j (by omega)]
    exact hj
  · exact Nat.le_trans (Nat.mul_le_mul (show l.length + 1 ≤ 1048578 by omega) hb1) (by decide)
  · have hv : (Value.slice (some ⟨g', 0, none⟩) (l.length + 1) cap).ownBlock = v.ownBlock ∨ (Value.slice (some ⟨g', 0, none⟩) (l.length + 1) cap).ownBlock = some w.heap.size := by
      rw [ownBlock_slice]
      rcases k3 with e | e
      · exact .inl e.symm
      · exact .inr (by rw [e])
    exact h _ _ _ w' (OwnG.pushed r1 r2 hu k1 k2 hv) k2 hv

/-- An object whose params lie in a block of its own, between two bounds. -/
structure OB where
  ob : ObjectD
  lo : Nat
  hi : Nat
def obAt (Q : Nat → Prop) (w : World) (cs : List Value) (t : OB) : Prop := ∃ a5 c5, cs = [.string t.ob.fName, .int .i64 t.ob.fKind, .int .i64 t.ob.fMark, .int .i64 t.ob.fType, .int .i64 t.ob.fValue, .slice a5 t.ob.fParams.length c5] ∧ OwnG paramS 95 t.lo Nowhere w (.slice a5 t.ob.fParams.length c5) t.ob.fParams ∧ ∀ q, (Value.slice a5 t.ob.fParams.length c5).ownBlock = some q → Q q ∧ q < t.hi
def obS : Shape OB where
  n := 6
  At := obAt
  len h := by obtain ⟨a5, c5, rfl, _⟩ := h; rfl
  keep h hb hs := by
    obtain ⟨a5, c5, rfl, h2, h3⟩ := h
    exact ⟨a5, c5, rfl, h2.keep (fun q hq hl => hb q (by
      rcases hq with hq | hq
      · exact hq.elim
      · exact (h3 q hq).1) hl) hs, h3⟩
  mono h hq := by
    obtain ⟨a5, c5, rfl, h2, h3⟩ := h
    exact ⟨a5, c5, rfl, h2, fun q e => ⟨hq q (h3 q e).1 (h2.lt q e).2, (h3 q e).2⟩⟩
section
variable {T : Type} {S : Shape T} {e : TypeId} {B : Nat} {P : Nat → Prop} {w w' : World} {l : List T}
/-- One cell of one of them set anew. -/
theorem OwnG.put {b n c k j : Nat} {u : Value} {t : T} (h : OwnG S e B P w (.slice (some ⟨b, 0, none⟩) n c) l) (hk : k < l.length) (hj : j < S.n) (hu : ∀ cs, S.At (fun q => P q ∧ q ≠ b) w cs l[k] → S.At (fun q => P q ∧ q ≠ b) w (cs.set j u) t) :
    OwnG S e B P (w.setCell ⟨b, k * S.n + j, none⟩ u) (.slice (some ⟨b, 0, none⟩) n c) (l.set k t) := by
  rcases h with ⟨h, _⟩ | ⟨b', cap, cur, hv, h2, h3, h4, h5, h6, h7⟩
  · cases h
  injection hv with hv hn hc
  injection hv with hv
  injection hv with hv
  subst hv hn hc
  have ho := (Only.refl b w).set (k * S.n + j) u
  have hkn := Nat.mul_le_mul_right S.n (show k + 1 ≤ c by omega)
  rw [Nat.add_mul] at hkn
  have kp : ∀ {c : List Value} {t : T}, S.At (fun q => P q ∧ q ≠ b) w c t → S.At (fun q => P q ∧ q ≠ b) (w.setCell ⟨b, k * S.n + j, none⟩ u) c t := fun hc =>
    S.keep hc (fun q hq hl => ho.block q hl (fun e => by injection e with e; exact hq.2 e)) ho.size
  refine .inr ⟨b, c, cur.setIfInBounds (k * S.n + j) u, by rw [List.length_set], h2, h3.set _ u, by rw [List.length_set]; exact h4, h5, by rw [Array.size_setIfInBounds]; exact h6, fun i hi _ => ?_⟩
  rw [List.length_set] at hi
  obtain ⟨c0, c1, c2⟩ := h7 i hi hi
  by_cases hik : i = k
  · subst hik
    refine ⟨c0.set j u, by rw [List.getElem_set_self]; exact kp (hu c0 c1), fun x hx => ?_⟩
    have hl := S.len c1
    have := c2 x hx
    rw [Nat.zero_add] at this ⊢
    by_cases hxj : x = j
    · subst hxj
      rw [Array.getElem?_setIfInBounds, if_pos rfl, if_pos (by omega), List.getElem?_set_self (by omega)]
    · rw [Array.getElem?_setIfInBounds, if_neg (by omega), this, List.getElem?_set_ne (Ne.symm hxj)]
  · refine ⟨c0, by rw [List.getElem_set_ne (by omega)]; exact kp c1, fun x hx => ?_⟩
    have := c2 x hx
    rw [Nat.zero_add] at this ⊢
    have hne : k * S.n + j ≠ i * S.n + x := by
      rcases Nat.lt_or_ge i k with h | h
      · have := Nat.mul_le_mul_right S.n (show i + 1 ≤ k by omega)
        rw [Nat.add_mul] at this
        omega
      · have := Nat.mul_le_mul_right S.n (show k + 1 ≤ i by omega)
        rw [Nat.add_mul] at this
        omega
    rw [Array.getElem?_setIfInBounds, if_neg hne, this]
end

/-! The first k told anew. -/
def doneK {T : Type} (f : T → T) (k : Nat) (l : List T) : List T := (l.take k).map f ++ l.drop k
section
variable {T : Type} {f : T → T} {k : Nat} {l : List T}
theorem doneK_len (h : k ≤ l.length) : (doneK f k l).length = l.length := by simp [doneK]; omega
theorem doneK_zero : doneK f 0 l = l := by simp [doneK]
theorem doneK_all : doneK f l.length l = l.map f := by simp [doneK]
theorem doneK_at (h : k < l.length) : (doneK f k l)[k]'(by rw [doneK_len (by omega)]; exact h) = l[k] := by
  unfold doneK
  rw [List.getElem_append_right (by simp; omega)]
  simp [Nat.min_eq_left (Nat.le_of_lt h)]
theorem doneK_set (h : k < l.length) : (doneK f k l).set k (f l[k]) = doneK f (k + 1) l := by
  unfold doneK
  rw [List.set_append_right _ _ (by simp; omega), List.take_succ_eq_append_getElem h, List.map_append]
  simp [Nat.min_eq_left (Nat.le_of_lt h)]
  rw [List.drop_eq_getElem_cons h]
  rfl
end

/-- The model's l4Export on its way through the objects. -/
structure Ex (l : List TypeD) (a : Option Addr) (c g bt B : Nat) (w0 : World) (nm : ByteArray) (w : World) (ov : Value) (o : List Int) (vo : Value) (L : List OB) : Prop where
  v : VSt l a c g bt B w ov o
  r0 : Rows typeS (fun b => b < w0.heap.size) w0 a l
  bl : Below w0.heap.size w0 w
  ob : Box w (w0.heap.size + 1) 33 #[.string ByteArray.empty, .slice none 0 0, .slice none 0 0, .slice none 0 0, .slice none 0 0]
  eb : Box w (w0.heap.size + 2) 33 #[.string nm, .slice none 0 0, .slice none 0 0, vo, .slice none 0 0]
  own : OwnG obS 86 B (fun q => B ≤ q ∧ ov.ownBlock ≠ some q) w vo L
  ne : ∀ q, vo.ownBlock = some q → ov.ownBlock ≠ some q
  g0 : w0.heap.size + 3 ≤ g
  b0 : w0.heap.size + 3 ≤ bt
  ch : L.Pairwise (fun x y => x.hi ≤ y.lo)
  hi : ∀ x ∈ L, x.hi ≤ w.heap.size
section
variable {l : List TypeD} {a : Option Addr} {c g bt B : Nat} {w0 w w' : World} {nm : ByteArray} {ov ov' vo vo' : Value} {o o' : List Int} {L L' : List OB}
theorem Ex.visit (h : Ex l a c g bt B w0 nm w ov o vo L) (hv : VSt l a c g bt B w' ov' o') (hp : OnlyP g bt ov w w') (hq : ∀ k, ov'.ownBlock = some k → ov.ownBlock = some k ∨ w.heap.size ≤ k) : Ex l a c g bt B w0 nm w' ov' o' vo L := by
  have hg := h.g0
  have hb := h.b0
  have hf := h.v.far
  have hgB := h.v.gB
  have htB := h.v.tB
  refine ⟨hv, h.r0, h.bl.trans (hp.below (by omega) (by omega) (fun k hk => by have := hf k hk; omega) h.bl.size), hp.box h.ob (by omega) (by omega) (fun e => by have := hf _ e; omega), hp.box h.eb (by omega) (by omega) (fun e => by have := hf _ e; omega), ?_, fun q e => ?_, hg, hb, h.ch, fun x hx => Nat.le_trans (h.hi x hx) hp.size⟩
  · refine OwnG.mono (P := fun q => (B ≤ q ∧ ov.ownBlock ≠ some q) ∧ q < w.heap.size) ((h.own.mono (fun q hq hl => ⟨hq, hl⟩)).keep (fun q hq hl => ?_) hp.size) (fun q hq' _ => ⟨hq'.1.1, fun e => ?_⟩)
    · have h1 : B ≤ q ∧ ov.ownBlock ≠ some q := by
        rcases hq with hq | hq
        · exact hq.1
        · exact ⟨(h.own.lt q hq).1, h.ne q hq⟩
      exact hp.block hl (by omega) (by omega) h1.2
    · rcases hq q e with e | e
      · exact hq'.1.2 e
      · omega
  · have h1 := h.ne q e
    have h2 := (h.own.lt q e).2
    intro e'
    rcases hq q e' with e' | e'
    · exact h1 e'
    · omega
theorem Ex.below (h : Ex l a c g bt B w0 nm w ov o vo L) (hb : Below w.heap.size w w') : Ex l a c g bt B w0 nm w' ov o vo L :=
  ⟨h.v.below hb, h.r0, h.bl.trans (hb.mono h.bl.size), h.ob.below hb h.ob.lt, h.eb.below hb h.eb.lt, h.own.below hb, h.ne, h.g0, h.b0, h.ch, fun x hx => Nat.le_trans (h.hi x hx) hb.size⟩
theorem Ex.alloc (h : Ex l a c g bt B w0 nm w ov o vo L) (ob : Obj) : Ex l a c g bt B w0 nm (w.alloc ob) ov o vo L := h.below ((Below.refl _ _).alloc (Nat.le_refl _) ob)
/-- Where the objects told anew turn. -/
theorem Ex.turn (h : Ex l a c g bt B w0 nm w ov o vo L) {q : Nat} (hp : OnlyP (w0.heap.size + 2) q vo w w') (hq : q = w0.heap.size + 2 ∨ (B ≤ q ∧ ov.ownBlock ≠ some q)) (heb : Box w' (w0.heap.size + 2) 33 #[.string nm, .slice none 0 0, .slice none 0 0, vo', .slice none 0 0])
    (hown : OwnG obS 86 B (fun q => B ≤ q ∧ ov.ownBlock ≠ some q) w' vo' L') (hne : ∀ q, vo'.ownBlock = some q → ov.ownBlock ≠ some q) (hch : L'.Pairwise (fun x y => x.hi ≤ y.lo)) (hhi : ∀ x ∈ L', x.hi ≤ w'.heap.size) : Ex l a c g bt B w0 nm w' ov o vo' L' := by
  have hg := h.g0
  have hb := h.b0
  have hf := h.v.far
  have hgB := h.v.gB
  have htB := h.v.tB
  have hvo := h.own.lt
  have hbl : Below w0.heap.size w0 w' := h.bl.trans (hp.below (by omega) (by rcases hq with hq | hq <;> omega) (fun k hk => by have := (hvo k hk).1; omega) h.bl.size)
  have kp : ∀ k, k < w.heap.size → k < B → k ≠ w0.heap.size + 2 → w'.heap[k]? = w.heap[k]? := fun k h1 h2 h3 => hp.block h1 h3 (by rcases hq with hq | hq <;> omega) (fun e => by have := (hvo k e).1; omega)
  refine ⟨⟨(kp g h.v.box.lt (by omega) (by omega)).trans h.v.box, (kp bt h.v.to.lt (by omega) (by omega)).trans h.v.to, ⟨h.v.own.1, h.v.own.2.imp id (fun ⟨k, cap, cur, h1, h2, h3, h4⟩ => ⟨k, cap, cur, h1, h2, (hp.block (Array.getElem?_eq_some_iff.1 h3).1 (by omega) ?_ ?_).trans h3, h4⟩)⟩, h.v.met, hgB, htB, h.v.ne, (h.r0.keep (fun b hb _ => hbl.block b hb) hbl.size).mono (fun b hb _ => ⟨by omega, by omega, by omega⟩), Nat.le_trans h.v.hB hp.size⟩, h.r0, hbl, (kp _ h.ob.lt (by omega) (by omega)).trans h.ob, heb, hown, hne, hg, hb, hch, hhi⟩
  · rcases hq with hq | hq
    · omega
    · intro e
      subst e
      exact hq.2 (by rw [h1]; exact ownBlock_slice _ _ _)
  · intro e
    exact h.ne k e (by rw [h1]; exact ownBlock_slice _ _ _)
theorem Ex.push (h : Ex l a c g bt B w0 nm w ov o vo L) {x : OB} (hown : OwnG obS 86 B (fun q => B ≤ q ∧ ov.ownBlock ≠ some q) w' vo' (L ++ [x])) (hg : w.grownBy w' vo.ownBlock) (hv : vo'.ownBlock = vo.ownBlock ∨ vo'.ownBlock = some w.heap.size) (hlo : ∀ y ∈ L, y.hi ≤ x.lo) (hhi : x.hi ≤ w.heap.size) : Ex l a c g bt B w0 nm (w'.setCell ⟨w0.heap.size + 2, 3, none⟩ vo') ov o vo' (L ++ [x]) := by
  have hgB := h.v.gB
  have hg0 := h.g0
  have hon : Only (w0.heap.size + 2) w' (w'.setCell ⟨w0.heap.size + 2, 3, none⟩ vo') := (Only.refl _ _).set 3 _
  have hp : OnlyP (w0.heap.size + 2) (w0.heap.size + 2) vo w (w'.setCell ⟨w0.heap.size + 2, 3, none⟩ vo') := (OnlyP.ofGrown hg).set 3 _
  refine h.turn hp (.inl rfl) ?_ (hown.keep (fun q hq hl => hon.block q hl (fun e => ?_)) hon.size) (fun q hq => ?_) ?_ (fun y hy => ?_)
  · have h1 : Box w' (w0.heap.size + 2) 33 _ := (hg.block _ h.eb.lt (fun e => by have := (h.own.lt _ e.symm).1; omega)).trans h.eb
    exact h1.set 3 vo'
  · injection e with e
    rcases hq with hq | hq
    · omega
    · have := (hown.lt q hq).1; omega
  · rcases hv with hv | hv
    · exact h.ne q (hv ▸ hq)
    · intro e
      have := (World.ownsRow.lt h.v.own q e).2
      rw [hv] at hq
      injection hq with hq
      omega
  · rw [List.pairwise_append]
    exact ⟨h.ch, by simp, fun y hy z hz => by rw [List.mem_singleton.1 hz]; exact hlo y hy⟩
  · rcases List.mem_append.1 hy with hy | hy
    · exact Nat.le_trans (h.hi y hy) hp.size
    · rw [List.mem_singleton.1 hy]; exact Nat.le_trans hhi hp.size
end
end Go.Proofs.YtbpbebhnledgnaaGreat

namespace Go.Proofs.YtbpbebhnledgnaaGreat
open Go.ChangeShapes Go.WideShapes Go.ChangeAt Go.RowKit
set_option maxRecDepth 100000

theorem OwnG.elem {T : Type} {S : Shape T} {e : TypeId} {B : Nat} {P : Nat → Prop} {w : World} {v : Value} {l : List T} {k : Nat} (h : OwnG S e B P w v l) (hk : k < l.length) : ∃ b c cs, v = .slice (some ⟨b, 0, none⟩) l.length c ∧ B ≤ b ∧ b < w.heap.size ∧ S.At (fun q => P q ∧ q ≠ b) w cs l[k] ∧ (∀ j, j < S.n → w.cell? ⟨b, k * S.n + j, none⟩ = cs[j]?) ∧ ∀ i, w.frozen? ⟨b, i, none⟩ = false := by
  rcases h with ⟨_, rfl⟩ | ⟨b, cap, cur, rfl, h2, h3, h4, h5, h6, h7⟩
  · exact absurd hk (by simp)
  · obtain ⟨cs, c1, c2⟩ := h7 k hk hk
    exact ⟨b, cap, cs, rfl, h2, h3.lt, c1, fun j hj => by rw [h3.cell, ← c2 j hj, Nat.zero_add], fun i => h3.free i⟩
/-- Bounds stay where an element is set anew within its own. -/
theorem bounds_set {L : List OB} {i : Nat} {x : OB} (hi : i < L.length) (h1 : x.lo = L[i].lo) (h2 : x.hi = L[i].hi) (hc : L.Pairwise (fun x y => x.hi ≤ y.lo)) : (L.set i x).Pairwise (fun x y => x.hi ≤ y.lo) := by
  have h : ∀ M : List OB, M.Pairwise (fun x y => x.hi ≤ y.lo) ↔ (M.map (fun x => (x.lo, x.hi))).Pairwise (fun x y => x.2 ≤ y.1) := fun M => by rw [List.pairwise_map]
  rw [h] at hc ⊢
  have e : (L.set i x).map (fun x => (x.lo, x.hi)) = L.map (fun x => (x.lo, x.hi)) := by
    rw [List.map_set, h1, h2]
    apply List.ext_getElem
    · simp
    · intro j h1 h2
      by_cases e : j = i
      · subst e; simp
      · rw [List.getElem_set_ne (Ne.symm e)]
  rw [e]
  exact hc
section
variable {l : List TypeD} {a : Option Addr} {c g bt B : Nat} {w0 w : World} {nm : ByteArray} {ov vo : Value} {o : List Int} {L : List OB}
theorem Ex.mem_set {i : Nat} {x : OB} (h : Ex l a c g bt B w0 nm w ov o vo L) (hi : i < L.length) (h2 : x.hi = L[i].hi) {n : Nat} (hn : w.heap.size ≤ n) : ∀ y ∈ L.set i x, y.hi ≤ n := fun y hy => by
  rcases List.mem_or_eq_of_mem_set hy with hy | rfl
  · exact Nat.le_trans (h.hi y hy) hn
  · rw [h2]; exact Nat.le_trans (h.hi _ (List.getElem_mem hi)) hn
theorem Ex.setType {i rb n rc : Nat} (h : Ex l a c g bt B w0 nm w ov o (.slice (some ⟨rb, 0, none⟩) n rc) L) (hi : i < L.length) (z : Int) : Ex l a c g bt B w0 nm (w.setCell ⟨rb, i * 6 + 3, none⟩ (.int .i64 z)) ov o (.slice (some ⟨rb, 0, none⟩) n rc) (L.set i ⟨{ L[i].ob with fType := z }, L[i].lo, L[i].hi⟩) := by
  have hrb := h.own.lt rb (ownBlock_slice _ _ _)
  have hg := h.g0
  have hgB := h.v.gB
  have hon : Only rb w (w.setCell ⟨rb, i * 6 + 3, none⟩ (.int .i64 z)) := (Only.refl _ _).set _ _
  refine h.turn (q := w0.heap.size + 2) ⟨hon.os, hon.tape, hon.output, hon.size, fun k hk _ _ h4 => hon.block k hk (fun e => h4 (by rw [ownBlock_slice, e]))⟩ (.inl rfl) (h.eb.only hon (by omega)) ?_ h.ne (by exact bounds_set hi (by rfl) (by rfl) h.ch) (by exact h.mem_set hi (by rfl) hon.size)
  exact h.own.put (S := obS) hi (j := 3) (by decide) (fun cs hc => by
    obtain ⟨a5, c5, rfl, h2, h3⟩ := hc
    exact ⟨a5, c5, rfl, h2, h3⟩)
theorem Ex.setParam {i rb n rc q pb pn pc : Nat} (h : Ex l a c g bt B w0 nm w ov o (.slice (some ⟨rb, 0, none⟩) n rc) L) (hi : i < L.length) (hc : w.cell? ⟨rb, i * 6 + 5, none⟩ = some (.slice (some ⟨pb, 0, none⟩) pn pc)) (hq : q < L[i].ob.fParams.length) (z : Int) : Ex l a c g bt B w0 nm (w.setCell ⟨pb, q * 3 + 2, none⟩ (.int .i64 z)) ov o (.slice (some ⟨rb, 0, none⟩) n rc) (L.set i ⟨{ L[i].ob with fParams := L[i].ob.fParams.set q { L[i].ob.fParams[q] with fType := z } }, L[i].lo, L[i].hi⟩) := by
  have hgB := h.v.gB
  have hg := h.g0
  have hrb := h.own.lt rb (ownBlock_slice _ _ _)
  have hown := h.own
  have hch := h.ch
  rcases hown with ⟨hx, _⟩ | ⟨b', cap, cur, hv, h2, h3, h4, h5, h6, h7⟩
  · cases hx
  injection hv with hv hn hcc
  injection hv with hv
  injection hv with hv
  subst hv hn hcc
  have hS : obS.n = 6 := rfl
  obtain ⟨cs, ⟨a5, c5, rfl, p1, p2⟩, k2⟩ := h7 i hi hi
  have hc5 := k2 5 (by decide)
  rw [h3.cell] at hc
  rw [hS, Nat.zero_add, hc] at hc5
  simp at hc5
  obtain ⟨e1, e2, e3⟩ := hc5
  subst e1 e2 e3
  have hpb := p2 pb (ownBlock_slice _ _ _)
  have hpl := p1.lt pb (ownBlock_slice _ _ _)
  have hon : Only pb w (w.setCell ⟨pb, q * 3 + 2, none⟩ (.int .i64 z)) := (Only.refl _ _).set _ _
  have hput := p1.put (S := paramS) hq (j := 2) (u := .int .i64 z) (t := { L[i].ob.fParams[q] with fType := z }) (by decide) (fun cs hc => by
    obtain rfl : cs = [.string L[i].ob.fParams[q].fName, .bool L[i].ob.fParams[q].fByVar, .int .i64 L[i].ob.fParams[q].fType] := hc
    rfl)
  refine h.turn (q := pb) ⟨hon.os, hon.tape, hon.output, hon.size, fun k hk _ h3 _ => hon.block k hk (fun e => by injection e with e; exact h3 e)⟩ (.inr hpb.1.1) (h.eb.only hon (by have := hpb.1.1.1; omega)) ?_ h.ne (by exact bounds_set hi (by rfl) (by rfl) h.ch) (by exact h.mem_set hi (by rfl) hon.size)
  refine .inr ⟨rb, rc, cur, by rw [List.length_set], h2, h3.only hon (fun e => hpb.1.2 e.symm), by rw [List.length_set]; exact h4, h5, h6, fun j hj _ => ?_⟩
  rw [List.length_set] at hj
  by_cases hji : j = i
  · subst hji
    refine ⟨_, ⟨some ⟨pb, 0, none⟩, pc, ?_, ?_, ?_⟩, k2⟩
    · rw [List.getElem_set_self]
      simp
    · rw [List.getElem_set_self]
      simp only [List.length_set]
      exact hput
    · rw [List.getElem_set_self]
      simpa using p2
  · obtain ⟨cj, ⟨aj, nj, rfl, r1, r2⟩, kj⟩ := h7 j hj hj
    have hd : ∀ x, (Value.slice aj L[j].ob.fParams.length nj).ownBlock = some x → x ≠ pb := fun x hx e => by
      subst e
      have s1 := r1.lt x hx
      have s2 := (r2 x hx).2
      have s3 := hpb.2
      have s4 := hpl.1
      rw [List.pairwise_iff_getElem] at hch
      rcases Nat.lt_or_gt_of_ne hji with hlt | hlt
      · have := hch j i hj hi hlt; omega
      · have := hch i j hi hj hlt; omega
    refine ⟨_, ⟨aj, nj, ?_, ?_, ?_⟩, kj⟩
    · rw [List.getElem_set_ne (Ne.symm hji)]
    · rw [List.getElem_set_ne (Ne.symm hji)]
      exact r1.keep (fun x hx hl => hon.block x hl (fun e => by
        injection e with e
        rcases hx with hx | hx
        · exact hx.elim
        · exact hd x hx e)) hon.size
    · rw [List.getElem_set_ne (Ne.symm hji)]
      exact r2
end
end Go.Proofs.YtbpbebhnledgnaaGreat
