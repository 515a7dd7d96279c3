
/-
  What is proved: a row of structs Known that the call owns, and append on it; marks written into it; a contract of the model's ConstsOf. No condition beside what each theorem states.
-/
import Derived.Test.YtchicpgcnfkpfaaGreatStKnown
import Derived.Test.YtchicpgcnfkpfaaGreatMkKnown
import Derived.Test.YtchicpgcnfkpfaaGreatUnlike
import Derived.Deep.AppendLies
import Derived.Test.YtchicpgcnfkpfaaGreatOpenScope
namespace Go.Proofs.YtchicpgcnfkpfaaGreat
open Go.ChangeShapes Go.WideShapes Go.ChangeAt Go.RowKit

theorem flat_len {T : Type} (f : T → List Value) (n : Nat) (hf : ∀ x, (f x).length = n) : ∀ l : List T, (l.flatMap f).length = l.length * n
  | [] => by simp
  | x :: l => by
    rw [List.flatMap_cons, List.length_append, hf, flat_len f n hf l, List.length_cons, Nat.add_mul]
    omega
theorem flat_at {T : Type} (f : T → List Value) (n : Nat) (hf : ∀ x, (f x).length = n) : ∀ (l : List T) (k : Nat) (h : k < l.length) (j : Nat), j < n → (l.flatMap f)[k * n + j]? = (f l[k])[j]?
  | [], k, h, _, _ => absurd h (by simp)
  | x :: l, k, h, j, hj => by
    rw [List.flatMap_cons]
    cases k with
    | zero => rw [Nat.zero_mul, Nat.zero_add, List.getElem?_append_left (by rw [hf]; exact hj)]; rfl
    | succ k =>
      rw [List.getElem?_append_right (by rw [hf, Nat.add_mul]; omega), hf, show (k + 1) * n + j - n = k * n + j by rw [Nat.add_mul]; omega, flat_at f n hf l k (by simpa using h) j hj]
      rfl
def knCells (t : KnownD) : List Value := [.string t.fMod, .string t.fName, .int .i64 t.fValue]
def OwnKns (w : World) (B : Nat) (v : Value) (l : List KnownD) : Prop := w.ownsRow B 58 3 v l.length (l.flatMap knCells)
theorem OwnKns.nil {w : World} {B : Nat} : OwnKns w B (.slice none 0 0) [] := World.ownsRow_nil _ _ _ _
theorem OwnKns.alloc {w : World} {B : Nat} {v : Value} {l : List KnownD} (h : OwnKns w B v l) (o : Obj) : OwnKns (w.alloc o) B v l := World.ownsRow.alloc h o
theorem OwnKns.lower {w : World} {B B' : Nat} {v : Value} {l : List KnownD} (h : OwnKns w B v l) (hB : B' ≤ B) : OwnKns w B' v l :=
  ⟨h.1, h.2.imp id (fun ⟨g, cap, cur, h1, h2, h3⟩ => ⟨g, cap, cur, h1, Nat.le_trans hB h2, h3⟩)⟩
theorem OwnKns.below {w w' : World} {B : Nat} {v : Value} {l : List KnownD} (h : OwnKns w B v l) (hb : Below w.heap.size w w') : OwnKns w' B v l :=
  ⟨h.1, h.2.imp id (fun ⟨g, cap, cur, h1, h2, h3, h4⟩ => ⟨g, cap, cur, h1, h2, (hb.block g (Array.getElem?_eq_some_iff.1 h3).1).trans h3, h4⟩)⟩
theorem kn_len (t : KnownD) : (knCells t).length = 3 := rfl
theorem knRows_of {w : World} {B : Nat} {a : Option Addr} {l : List KnownD} (h : OwnC w B a (l.flatMap knCells)) : Rows knownS (fun b => B ≤ b) w a l := fun i hi => by
  rcases h with h3 | ⟨g, t, cur, rfl, hb, hx, hs, hc⟩
  · have := flat_len knCells 3 kn_len l
    rw [h3] at this
    simp at this
    omega
  · have hn : knownS.n = 3 := rfl
    refine ⟨g, 0, knCells l[i], rfl, hb, hx.lt, fun j hj => ?_, rfl⟩
    have hl := flat_len knCells 3 kn_len l
    rw [hn] at hj ⊢
    rw [Nat.zero_add, hx.cell, hc (i * 3 + j) (by rw [hl]; omega), flat_at knCells 3 kn_len l i hi j hj]
theorem OwnKns.rows {w : World} {B : Nat} {v : Value} {l : List KnownD} (h : OwnKns w B v l) : ∃ a c, v = .slice a l.length c ∧ l.length ≤ c ∧ c ≤ maxLen ∧ OwnC w B a (l.flatMap knCells) ∧ Rows knownS (fun b => B ≤ b) w a l := by
  obtain ⟨a, c, rfl, h1, h2, h3⟩ := ownC_of_row h
  exact ⟨a, c, rfl, h1, h2, h3, knRows_of h3⟩

/-- append of one Known to a row of these that the call owns. -/
theorem wpList_pushKn {ops : Array Oper} {rest : List Oper} {o : Oper} {a : Act} {Q : Exit → Act → World → Prop} (hgd : o.guard = none) (s x : Operand)
    (ho : o.op = .call { callee := .builtin .append, args := #[s, x], argTypes := #[29, 29] })
    (B : Nat) (w : World) (v : Value) (l : List KnownD) (hs : a.eval s = v) (g : Nat) (hown : OwnKns w B v l) (u : KnownD) (hx : a.eval x = .slice (some ⟨g, 0, none⟩) 1 1) (hg : Box w g 58 #[.string u.fMod, .string u.fName, .int .i64 u.fValue])
    (h63 : l.length + 1 ≤ 1048577 + 1048576) (hbase : B ≤ w.heap.size)
    (h : ∀ v' w', OwnKns w' B v' (l ++ [u]) → w.grownBy w' v.ownBlock → (∀ k, v.ownBlock = some k → B ≤ k ∧ k < w.heap.size) → wpList Tryz.prog ops Q rest (a.put o.dst v') w') : wpList Tryz.prog ops Q (o :: rest) a w := by
  obtain ⟨i0, hi, hz0, hz1, hz2⟩ := info_parts infoKnown
  refine wpList_append_own _ hgd s x 29 ho B 58 i0 _ 3 40 Tryz.underlying29 hi hz0 hz1 hz2 rfl (by decide) v l.length (l.flatMap knCells) hs hown ⟨g, 0, none⟩ 1 1 (knCells u) hx rfl ?_
    (fun y hy => by
      rcases List.mem_cons.1 hy with rfl | hy
      · rfl
      rcases List.mem_cons.1 hy with rfl | hy
      · rfl
      rw [List.mem_singleton.1 hy]
      rfl) (by unfold maxLen; omega) (by omega) (by omega) (fun v' w' h1 h2 _ => h v' w' (by unfold OwnKns; rw [List.flatMap_append, List.length_append]; simpa using h1) h2 (World.ownsRow.lt hown))
  intro j u' hu
  have e : (⟨g, 0, none⟩ : Addr).add j = ⟨g, j, none⟩ := by unfold Addr.add; split <;> simp_all
  rw [e, hg.cell]
  simpa [knCells] using hu

/-- The same in a region whose order is left open. -/
theorem step_pushKn {ops : Array Oper} {o : Oper} {a : Act} {K : Act → World → Prop} {Q : Exit → Act → World → Prop} {E : Prop} (hgd : o.guard = none) (s x : Operand)
    (ho : o.op = .call { callee := .builtin .append, args := #[s, x], argTypes := #[29, 29] })
    (B : Nat) (w : World) (v : Value) (l : List KnownD) (hs : a.eval s = v) (g : Nat) (hown : OwnKns w B v l) (u : KnownD) (hx : a.eval x = .slice (some ⟨g, 0, none⟩) 1 1) (hg : Box w g 58 #[.string u.fMod, .string u.fName, .int .i64 u.fValue])
    (h63 : l.length + 1 ≤ 1048577 + 1048576) (hbase : B ≤ w.heap.size)
    (h : ∀ v' w', OwnKns w' B v' (l ++ [u]) → w.grownBy w' v.ownBlock → K (a.put o.dst v') w') : if Region.wanted o (yielded ops a.tmps) = true then Oper.wp Tryz.prog o a w K Q else E := by
  obtain ⟨i0, hi, hz0, hz1, hz2⟩ := info_parts infoKnown
  refine step_append_lies w hgd s x 29 ho B 58 i0 _ 3 40 Tryz.underlying29 hi hz0 hz1 hz2 rfl (by decide) v l.length (l.flatMap knCells) hs hown ⟨g, 0, none⟩ 1 1 (knCells u) hx rfl ?_
    (fun y hy => by
      rcases List.mem_cons.1 hy with rfl | hy
      · rfl
      rcases List.mem_cons.1 hy with rfl | hy
      · rfl
      rw [List.mem_singleton.1 hy]
      rfl) (by omega) (by unfold maxLen; omega) (by omega) hbase _ rfl (fun g' cap w' h1 h2 _ _ => h _ w' (by unfold OwnKns; rw [List.flatMap_append, List.length_append]; simpa using h1) h2)
  intro j u' hu
  have e : (⟨g, 0, none⟩ : Addr).add j = ⟨g, j, none⟩ := by unfold Addr.add; split <;> simp_all
  rw [e, hg.cell]
  simpa [knCells] using hu

theorem lMarkKns (B : Nat) (a : Option Addr) (c : Nat) (l : List KnownD) (k : Int) (w : World) (hown : OwnC w B a (l.flatMap knCells)) (hB : B ≤ w.heap.size) (hl : l.length ≤ 1048576) (hk : 0 < k) (hk2 : k ≤ 1000000000) :
    Calls Tryz.prog 11 #[.slice a l.length c, .int .i64 k] w fun e w' => e = .returned (.int .i64 (k + 3 * (l.length : Int))) ∧ Rows knownS Any w' a (mkKnownL l.length k) ∧ Below B w w' := by
  have hln := flat_len knCells 3 kn_len l
  rcases hown with h | ⟨g, t, cur, rfl, h2, h3, h4, _⟩
  · have : l = [] := by
      rw [h, List.length_nil] at hln
      exact List.eq_nil_of_length_eq_zero (by omega)
    subst this
    refine (lMarkKnownS0 a c k w).mono ?_
    rintro e w' ⟨rfl, rfl⟩
    exact ⟨by simp, Rows.nil, Below.refl _ _⟩
  · exact lMarkKnownS B g 0 c l.length t cur k w h2 hB hl hk hk2 h3 (by rw [hln] at h4; omega)
end Go.Proofs.YtchicpgcnfkpfaaGreat

namespace Go.Proofs.YtchicpgcnfkpfaaGreat
open Go.ChangeShapes Go.WideShapes Go.ChangeAt Go.RowKit

/-- The constants as an expression knows them. -/
def knownOf (o : ObjectD) : KnownD := ⟨⟨#[]⟩, o.fName, o.fValue⟩
def constL (os : List ObjectD) : List KnownD := (os.filter (fun o => decide (o.fKind = 1))).map knownOf
theorem const_yes {os : List ObjectD} {k : Nat} (hk : k < os.length) (h : os[k].fKind = 1) : constL (os.take (k + 1)) = constL (os.take k) ++ [knownOf os[k]] := by
  unfold constL
  rw [List.take_succ_eq_append_getElem hk, List.filter_append, List.map_append]
  simp [h]
theorem const_no {os : List ObjectD} {k : Nat} (hk : k < os.length) (h : ¬ os[k].fKind = 1) : constL (os.take (k + 1)) = constL (os.take k) := by
  unfold constL
  rw [List.take_succ_eq_append_getElem hk, List.filter_append, List.map_append]
  simp [h]
theorem const_len {os : List ObjectD} {k : Nat} : (constL (os.take k)).length ≤ k := by
  unfold constL
  rw [List.length_map]
  have h := List.length_filter_le (fun o : ObjectD => decide (o.fKind = 1)) (os.take k)
  have h2 : (os.take k).length ≤ k := by simp; omega
  omega
/-- What is told of a call of ConstsOf. -/
def PostCO (s : ScopeD) (w : World) (e : Ending) (w' : World) : Prop := ∃ (v : Value) (l : List KnownD) (ok : Bool), e = .returned (.tuple #[v, .bool ok]) ∧ OwnKns w' w.heap.size v l ∧ ((scopeP s ∧ l = constL s.fObjects ∧ ok = true) ∨ (¬ scopeP s ∧ l = [] ∧ ok = false)) ∧ Below w.heap.size w w'

set_option maxRecDepth 100000 in
set_option maxHeartbeats 8000000 in
theorem sl6Consts (s : ScopeD) (a1 a2 a3 a4 : Option Addr) (c1 c2 c3 c4 : Nat) (w : World) (hm : ScopeM w a1 a2 a3 a4 c1 c2 c3 c4 s) :
    Calls Tryz.prog 18 #[.agg (scopeC s a1 a2 a3 a4 c1 c2 c3 c4), .string ⟨#[]⟩] w fun e w' => ∃ v, e = .returned v ∧ OwnKns w' w.heap.size v (constL s.fObjects) ∧ Below w.heap.size w w' := by
  have B0 := Lib.hid ((Below.refl w.heap.size w).alloc (Nat.le_refl _) (.cells (scopeC s a1 a2 a3 a4 c1 c2 c3 c4) 36))
  have X0 := scope_box w s a1 a2 a3 a4 c1 c2 c3 c4
  have H := Lib.hid hm
  have hlo := hm.lo
  have x3 := X0.cell 3
  simp at x3
  clear hm X0
  go_enter Tryz.func18, Tryz.ntmps18
  go_wp2_with fail
  clear x3
  go_loopw [5, 11] (fun x i wr => ∃ (k : Nat) (v : Value), i = .int .i64 k ∧ x = v ∧ k ≤ s.fObjects.length ∧ OwnKns wr w.heap.size v (constL (s.fObjects.take k)) ∧ Below w.heap.size w wr) (fun _ i _ => s.fObjects.length - (intOf i).toNat)
  case atStart => exact ⟨0, _, rfl, rfl, by omega, by rw [List.take_zero]; exact OwnKns.nil, B0.out⟩
  case round =>
    obtain ⟨k, v, rfl, rfl, hk, hown, hbel⟩ := hrel
    have Hown := Lib.hid hown
    clear hown
    by_cases hlt : k < s.fObjects.length
    · obtain ⟨b, o, pa, pc, hba, hb1, _, e0, e1, e2, e3, e4, e5⟩ := object_at H.out.r.objects hlt hbel
      subst hba
      have hsz := hbel.size
      have Hbel := Lib.hid (hbel.alloc hbel.size (.cells (objC s.fObjects[k] pa pc) 55))
      have Hown2 := Lib.hid (Hown.out.alloc (.cells (objC s.fObjects[k] pa pc) 55))
      have Hy := Lib.hid (const_yes hlt)
      have Hn := Lib.hid (const_no hlt)
      have hlen : (constL (s.fObjects.take k)).length ≤ k := const_len
      clear hbel
      generalize s.fObjects[k] = t at *
      by_cases hmk : t.fKind = 1
      · have Hy2 := Lib.hid (Hy.out hmk)
        have hmk2 : (t.fKind == 1) = true := beq_iff_eq.2 hmk
        clear hmk
        go_wp2_with (at_builtin; refine wpList_pushKn rfl _ _ rfl w.heap.size _ _ (constL (s.fObjects.take k)) rfl _ ?q1 (knownOf t) rfl ?q2 ?q3 ?q4 ?_)
        case q1 => exact Hown2.out.alloc _
        case q2 => exact Box.new' _ _ _ (by simp)
        case q3 => omega
        case q4 => first | omega | (simp; done) | (simp; omega)
        intro v' w4 hown4 hg4 hlt4
        have B4 := Lib.hid ((Hbel.out.alloc Hbel.out.size (.cells #[.string ⟨#[]⟩, .string t.fName, .int .i64 t.fValue] 58)).grown hg4 (by simp; omega) (fun k hk => (hlt4 k hk).1))
        rw [← Hy2.out] at hown4
        have O4 := Lib.hid hown4
        clear hown4 hg4 hlt4
        go_wp2_with fail
        exact ⟨⟨k + 1, _, by congr 1, rfl, by omega, O4.out, B4.out⟩, by simp [intOf]; omega⟩
      · have hmk2 : (t.fKind == 1) = false := beq_eq_false_iff_ne.2 hmk
        have Hn2 := Lib.hid (Hn.out hmk)
        clear hmk
        have O4 := Lib.hid (show OwnKns _ w.heap.size _ (constL (s.fObjects.take (k + 1))) by rw [Hn2.out]; exact Hown2.out)
        go_wp2_with fail
        exact ⟨⟨k + 1, _, by congr 1, rfl, by omega, O4.out, Hbel.out⟩, by simp [intOf]; omega⟩
    · have hown2 := Hown.out
      rw [show k = s.fObjects.length by omega, List.take_length] at hown2
      have O2 := Lib.hid hown2
      have Hbel := Lib.hid hbel
      clear hbel hown2
      go_wp2_with fail
      go_ret
      exact ⟨_, rfl, O2.out, Hbel.out⟩

set_option maxRecDepth 100000 in
set_option maxHeartbeats 8000000 in
theorem sConstsOf (s : ScopeD) (a1 a2 a3 a4 : Option Addr) (c1 c2 c3 c4 : Nat) (w : World) (hm : ScopeM w a1 a2 a3 a4 c1 c2 c3 c4 s) :
    Calls Tryz.prog 5 #[.agg (scopeC s a1 a2 a3 a4 c1 c2 c3 c4)] w (PostCO s w) := by
  have B0 := Lib.hid ((Below.refl w.heap.size w).alloc (Nat.le_refl _) (.cells (scopeC s a1 a2 a3 a4 c1 c2 c3 c4) 36))
  have X0 := Lib.hid (scope_box w s a1 a2 a3 a4 c1 c2 c3 c4)
  have H := Lib.hid hm
  have hg := sl4Good s a1 a2 a3 a4 c1 c2 c3 c4 _ (hm.below B0.out)
  clear hm
  go_enter Tryz.func5, Tryz.ntmps5
  by_cases p1 : scopeP s
  · rw [scopeB_true p1] at hg
    have Hg := Lib.hid hg
    have P1 := Lib.hid p1
    clear hg p1
    go_wp2_with fail
    refine Hg.out.mono ?_
    rintro e w1 ⟨rfl, hb1⟩
    have B1 := Lib.hid (B0.out.trans (hb1.mono B0.out.size))
    have X1 := Lib.hid (X0.out.below hb1 X0.out.lt)
    clear hb1 Hg
    obtain ⟨x0, x1, x2, x3, x4⟩ := box5 X1.out
    go_wp2_with fail
    clear x0 x1 x2 x3 x4
    refine (sl6Consts s a1 a2 a3 a4 c1 c2 c3 c4 _ (H.out.below B1.out)).mono ?_
    rintro e w2 ⟨v, rfl, hown, hb2⟩
    have O2 := Lib.hid (hown.lower B1.out.size)
    have B2 := Lib.hid (B1.out.trans (hb2.mono B1.out.size))
    clear hown hb2
    go_wp2_with fail
    go_ret2
    unfold PostCO
    exact ⟨_, _, true, rfl, O2.out, .inl ⟨P1.out, rfl, rfl⟩, B2.out⟩
  · have P1 := Lib.hid p1
    rw [scopeB_false p1] at hg
    have Hg := Lib.hid hg
    clear hg p1
    go_wp2_with fail
    refine Hg.out.mono ?_
    rintro e w1 ⟨rfl, hb1⟩
    have B1 := Lib.hid (B0.out.trans (hb1.mono B0.out.size))
    clear hb1
    go_wp2_with fail
    go_ret2
    unfold PostCO
    exact ⟨_, [], false, rfl, OwnKns.nil, .inr ⟨P1.out, rfl, rfl⟩, B1.out⟩
end Go.Proofs.YtchicpgcnfkpfaaGreat
