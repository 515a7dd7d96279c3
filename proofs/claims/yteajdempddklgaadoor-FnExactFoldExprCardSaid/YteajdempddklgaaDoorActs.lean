
/-
  What is proved: the actions of steps, as data; rows of actions that the call owns; the contracts of the program's actionsOf and GoodExpr. No condition beside what each theorem states.
-/
import Derived.Test.YteajdempddklgaaDoorIAct
import Derived.Test.YteajdempddklgaaDoorUnlike
import Derived.Deep.AppendLies
namespace Go.Proofs.YteajdempddklgaaDoor
open Go.ChangeShapes Go.WideShapes Go.ChangeAt Go.RowKit
set_option maxRecDepth 100000

/-- What steps do, one behind another, and how many values stand behind them. -/
inductive ActsTo : List StepD → Int → List ActD → Prop
  | nil : ActsTo [] 0 []
  | snoc {l : List StepD} {n : Int} {xs : List ActD} {s : StepD} {a : ActD} : ActsTo l n xs → IsAct s a → a.takes ≤ n → ActsTo (l ++ [s]) (n + (1 - a.takes)) (xs ++ [a])
theorem ActsTo.inv {l : List StepD} {s : StepD} {m : Int} {bs : List ActD} (h : ActsTo (l ++ [s]) m bs) : ∃ n xs a, ActsTo l n xs ∧ IsAct s a ∧ a.takes ≤ n ∧ m = n + (1 - a.takes) ∧ bs = xs ++ [a] := by
  generalize hq : l ++ [s] = q at h
  cases h with
  | nil => simp at hq
  | snoc h1 h2 h3 =>
    obtain ⟨e1, e2⟩ := List.append_inj' hq rfl
    subst e1
    injection e2 with e2 _
    subst e2
    exact ⟨_, _, _, h1, h2, h3, rfl, rfl⟩
theorem ActsTo.unique : ∀ {l : List StepD} {n m : Int} {xs bs : List ActD}, ActsTo l n xs → ActsTo l m bs → n = m ∧ xs = bs := by
  intro l n m xs bs h
  induction h generalizing m bs with
  | nil => intro h; generalize hq : ([] : List StepD) = q at h; cases h with | nil => exact ⟨rfl, rfl⟩ | snoc => simp at hq
  | snoc h1 h2 h3 ih =>
    intro h
    obtain ⟨n', xs', a', g1, g2, g3, rfl, rfl⟩ := h.inv
    obtain ⟨rfl, rfl⟩ := ih g1
    obtain rfl := h2.unique g2
    exact ⟨rfl, rfl⟩
theorem ActsTo.len {l : List StepD} {n : Int} {xs : List ActD} (h : ActsTo l n xs) : xs.length = l.length ∧ 0 ≤ n ∧ n ≤ l.length := by
  induction h with
  | nil => simp
  | @snoc l n xs s a h1 h2 h3 ih =>
    have : 0 ≤ a.takes := by cases a <;> simp [ActD.takes]
    simp only [List.length_append, List.length_singleton]
    omega
theorem take_snoc {T : Type} {l : List T} {k : Nat} (h : k < l.length) : l.take (k + 1) = l.take k ++ [l[k]] := by rw [List.take_add_one, List.getElem?_eq_getElem h]; rfl
theorem ActsTo.take {l : List StepD} : ∀ {k : Nat}, k ≤ l.length → (∃ n xs, ActsTo l n xs) → ∃ n xs, ActsTo (l.take k) n xs := by
  intro k hk h
  induction hd : l.length - k generalizing k with
  | zero => rw [show k = l.length by omega, List.take_length]; exact h
  | succ d ih =>
    obtain ⟨n, xs, h1⟩ := ih (k := k + 1) (by omega) (by omega)
    rw [take_snoc (by omega)] at h1
    obtain ⟨n', xs', a, g1, _⟩ := h1.inv
    exact ⟨n', xs', g1⟩
/-- Where the k-th step can not do what it should there is no expression. -/
theorem ActsTo.stop {l : List StepD} {k : Nat} (hk : k < l.length) {n : Int} {xs : List ActD} (h : ActsTo (l.take k) n xs) (hno : ∀ a, IsAct l[k] a → ¬ a.takes ≤ n) : ¬ ∃ m bs, ActsTo l m bs := fun h2 => by
  obtain ⟨m, bs, h3⟩ := ActsTo.take (k := k + 1) (by omega) h2
  rw [take_snoc hk] at h3
  obtain ⟨n', xs', a, g1, g2, g3, _⟩ := h3.inv
  obtain ⟨rfl, _⟩ := g1.unique h
  exact hno a g2 g3

/-- The steps are those of one expression. -/
def GoodE (l : List StepD) (xs : List ActD) : Prop := l.length ≤ 40 ∧ ActsTo l 1 xs
theorem GoodE.unique {l : List StepD} {xs bs : List ActD} (h : GoodE l xs) (h' : GoodE l bs) : xs = bs := (h.2.unique h'.2).2
open Classical in
noncomputable def goodEB (l : List StepD) : Bool := decide (∃ xs, GoodE l xs)
theorem goodEB_true {l : List StepD} {xs : List ActD} (h : GoodE l xs) : goodEB l = true := by unfold goodEB; simpa using ⟨xs, h⟩
theorem goodEB_false {l : List StepD} (h : ∀ xs, ¬ GoodE l xs) : goodEB l = false := by unfold goodEB; simpa using h

/-! Rows of actions. -/
theorem infoAct : (Tryd.prog.info? 123).map (fun i => (i.zero, i.size, i.bytes)) = some (some .nilIface, 1, 16) := by kernel_rfl
def OwnActs (w : World) (B : Nat) (v : Value) (l : List ActD) : Prop := w.ownsRow B 123 1 v l.length (l.map ActD.val)
theorem OwnActs.nil {w : World} {B : Nat} : OwnActs w B (.slice none 0 0) [] := World.ownsRow_nil _ _ _ _
theorem OwnActs.alloc {w : World} {B : Nat} {v : Value} {l : List ActD} (h : OwnActs w B v l) (o : Obj) : OwnActs (w.alloc o) B v l := World.ownsRow.alloc h o
theorem OwnActs.below {w w' : World} {B : Nat} {v : Value} {l : List ActD} (h : OwnActs w B v l) (hb : Below w.heap.size w w') : OwnActs w' B v l :=
  ⟨h.1, h.2.imp id (fun ⟨g, cap, cur, h1, h2, h3, h4⟩ => ⟨g, cap, cur, h1, h2, (hb.block g (Array.getElem?_eq_some_iff.1 h3).1).trans h3, h4⟩)⟩
theorem OwnActs.lower {w : World} {B B' : Nat} {v : Value} {l : List ActD} (h : OwnActs w B v l) (hB : B' ≤ B) : OwnActs w B' v l :=
  ⟨h.1, h.2.imp id (fun ⟨g, cap, cur, h1, h2, h3⟩ => ⟨g, cap, cur, h1, Nat.le_trans hB h2, h3⟩)⟩
/-- Its cells. -/
theorem OwnActs.at {w : World} {B : Nat} {v : Value} {l : List ActD} (h : OwnActs w B v l) : ∃ a c, v = .slice a l.length c ∧ OwnC w B a (l.map ActD.val) := by
  obtain ⟨a, c, h1, _, _, h2⟩ := ownC_of_row h
  exact ⟨a, c, h1, h2⟩

/-- append of one action to a row of these that the call owns. -/
theorem wpList_pushAct {ops : Array Oper} {rest : List Oper} {o : Oper} {a : Act} {Q : Exit → Act → World → Prop} (hgd : o.guard = none) (s x : Operand)
    (ho : o.op = .call { callee := .builtin .append, args := #[s, x], argTypes := #[75, 75] })
    (B : Nat) (w : World) (v : Value) (l : List ActD) (hs : a.eval s = v) (g : Nat) (hown : OwnActs w B v l) (u : ActD) (hx : a.eval x = .slice (some ⟨g, 0, none⟩) 1 1) (hg : Box w g 123 #[u.val])
    (h63 : l.length + 1 ≤ 1048577 + 1048576) (hbase : B ≤ w.heap.size)
    (h : ∀ v' w', OwnActs w' B v' (l ++ [u]) → w.grownBy w' v.ownBlock → (∀ k, v.ownBlock = some k → B ≤ k ∧ k < w.heap.size) → wpList Tryd.prog ops Q rest (a.put o.dst v') w') : wpList Tryd.prog ops Q (o :: rest) a w := by
  obtain ⟨i0, hi, hz0, hz1, hz2⟩ := info_parts infoAct
  refine wpList_append_own _ hgd s x 75 ho B 123 i0 _ 1 16 Tryd.underlying75 hi hz0 hz1 hz2 rfl (by decide) v l.length (l.map ActD.val) hs hown ⟨g, 0, none⟩ 1 1 [u.val] hx rfl ?_
    (fun y hy => by
      rw [List.mem_singleton.1 hy]
      cases u <;> rfl) (by unfold maxLen; omega) (by omega) (by omega) (fun v' w' h1 h2 _ => h v' w' (by unfold OwnActs; rw [List.map_append, List.length_append]; simpa using h1) h2 (World.ownsRow.lt hown))
  intro j u' hu
  have e : (⟨g, 0, none⟩ : Addr).add j = ⟨g, j, none⟩ := by unfold Addr.add; split <;> simp_all
  rw [e, hg.cell]
  simpa using hu

theorem iTakes_num (v : Int) (w : World) : Calls Tryd.prog 203 #[.agg #[.int .i64 v]] w fun e w' => e = .returned (.int .i64 0) ∧ Below w.heap.size w w' := by
  go_enter Tryd.func203, Tryd.ntmps203
  go_wp2_with fail
  go_ret
  exact ⟨rfl, by first | exact Below.refl _ _ | exact (Below.refl _ _).alloc (Nat.le_refl _) _⟩
theorem iTakes_name (m n : ByteArray) (w : World) : Calls Tryd.prog 198 #[.agg #[.string m, .string n]] w fun e w' => e = .returned (.int .i64 0) ∧ Below w.heap.size w w' := by
  go_enter Tryd.func198, Tryd.ntmps198
  go_wp2_with fail
  go_ret
  exact ⟨rfl, by first | exact Below.refl _ _ | exact (Below.refl _ _).alloc (Nat.le_refl _) _⟩
theorem iTakes_pair (k s : Int) (m : ByteArray) (w : World) : Calls Tryd.prog 205 #[.agg #[.int .i64 k, .string m, .int .i64 s]] w fun e w' => e = .returned (.int .i64 2) ∧ Below w.heap.size w w' := by
  go_enter Tryd.func205, Tryd.ntmps205
  go_wp2_with fail
  go_ret
  exact ⟨rfl, by first | exact Below.refl _ _ | exact (Below.refl _ _).alloc (Nat.le_refl _) _⟩
theorem iTakes_minus  (w : World) : Calls Tryd.prog 204 #[.agg #[]] w fun e w' => e = .returned (.int .i64 1) ∧ Below w.heap.size w w' := by
  go_enter Tryd.func204, Tryd.ntmps204
  go_wp2_with fail
  go_ret
  exact ⟨rfl, by first | exact Below.refl _ _ | exact (Below.refl _ _).alloc (Nat.le_refl _) _⟩

def PostActs (l : List StepD) (w : World) (e : Ending) (w' : World) : Prop :=
  (∃ v ok, e = .returned (.tuple #[v, .bool ok]) ∧ ((∃ xs, GoodE l xs ∧ OwnActs w' w.heap.size v xs ∧ ok = true) ∨ ((∀ xs, ¬ GoodE l xs) ∧ ok = false))) ∧ Below w.heap.size w w'

set_option maxHeartbeats 4000000 in
theorem iActionsOf (a : Option Addr) (c : Nat) (l : List StepD) (w : World) (hk : Kept w) (hcm : ∀ t ∈ l, t.fName.size ≤ maxLen ∧ t.fMod.size ≤ maxLen) (hr : Rows stepS Any w a l) : Calls Tryd.prog 45 #[.slice a l.length c] w (PostActs l w) := by
  have Hr := Lib.hid hr
  have HK := Lib.hid hk
  have Hcm := Lib.hid hcm
  clear hr hk hcm
  go_enter Tryd.func45, Tryd.ntmps45
  by_cases hl : l.length ≤ 40
  · go_wp2_with fail
    go_loopw [4, 5, 15] (fun v m i wr => ∃ (k : Nat) (n : Int) (xs : List ActD), i = .int .i64 k ∧ m = .int .i64 n ∧ k ≤ l.length ∧ ActsTo (l.take k) n xs ∧ OwnActs wr w.heap.size v xs ∧ Below w.heap.size w wr) (fun _ _ i _ => l.length - (intOf i).toNat)
    case atStart => exact ⟨0, 0, [], rfl, rfl, by omega, .nil, OwnActs.nil, Below.refl _ _⟩
    case round =>
      obtain ⟨k, n, xs, rfl, rfl, hk, hto, hown, hbel⟩ := hrel
      have To := Lib.hid hto
      have Hown := Lib.hid hown
      have hxl := hto.len.1
      have hn0 := hto.len.2.1
      have hn1 := hto.len.2.2
      have HK1 := Lib.hid (HK.out.below hbel)
      clear hto hown
      by_cases hlt : k < l.length
      · obtain ⟨b, o, cs, rfl, _, hb1, hc1, hat⟩ := Hr.out k hlt
        obtain rfl : cs = [.int .i64 l[k].fKind, .int .i64 l[k].fValue, .string l[k].fMod, .string l[k].fName] := hat
        have e0 := (hbel.cell (p := ⟨b, o + k * 4 + 0, none⟩) hb1).trans (hc1 0 (by decide))
        have e1 := (hbel.cell (p := ⟨b, o + k * 4 + 1, none⟩) hb1).trans (hc1 1 (by decide))
        have e2 := (hbel.cell (p := ⟨b, o + k * 4 + 2, none⟩) hb1).trans (hc1 2 (by decide))
        have e3 := (hbel.cell (p := ⟨b, o + k * 4 + 3, none⟩) hb1).trans (hc1 3 (by decide))
        simp at e0 e1 e2 e3
        obtain ⟨hsn, hsm⟩ := Hcm.out l[k] (List.getElem_mem hlt)
        have Hstop := Lib.hid (fun hno => ActsTo.stop hlt To.out hno)
        have Hstep := Lib.hid (fun a (h2 : IsAct l[k] a) h3 => (take_snoc hlt).symm ▸ ActsTo.snoc To.out h2 h3)
        have Hbel := Lib.hid hbel
        rw [List.length_take] at hxl hn1
        clear hbel hc1
        generalize l[k] = t at *
        go_wp2_with fail
        refine (iActionOf t _ (HK1.out.alloc _) hsn hsm).mono ?_
        rintro e w1 ⟨⟨va, ok, rfl, hd⟩, hb1⟩
        have B1 := Lib.hid (Hbel.out.trans (((Below.refl wr.heap.size wr).alloc (Nat.le_refl _) (.cells #[.int .i64 t.fKind, .int .i64 t.fValue, .string t.fMod, .string t.fName] 72)).trans (hb1.mono (by simp)) |>.mono Hbel.out.size))
        have O1 := Lib.hid ((Hown.out.alloc (.cells #[.int .i64 t.fKind, .int .i64 t.fValue, .string t.fMod, .string t.fName] 72)).below hb1)
        have hs1 := B1.out.size
        clear hb1
        rcases hd with ⟨a, hact, rfl, rfl⟩ | ⟨hno, rfl⟩
        · have Hact := Lib.hid hact
          clear hact
          cases a
          case num x =>
            have Hst := Lib.hid (fun h3 => Hstep.out _ Hact.out h3)
            dsimp only [ActD.val]
            go_wp2_with fail
            refine (iTakes_num _ _).mono ?_
            rintro e w2 ⟨rfl, hb2⟩
            have B2 := Lib.hid (B1.out.trans (hb2.mono B1.out.size))
            have O2 := Lib.hid (O1.out.below hb2)
            have hs2 := B2.out.size
            clear hb2
            go_wp2_with fail
            refine (iTakes_num _ _).mono ?_
            rintro e w3 ⟨rfl, hb3⟩
            have B3 := Lib.hid (B2.out.trans (hb3.mono B2.out.size))
            have O3 := Lib.hid (O2.out.below hb3)
            have hs3 := B3.out.size
            clear hb3
            go_wp2_with (at_builtin; refine wpList_pushAct rfl _ _ rfl w.heap.size _ _ xs rfl _ (O3.out.alloc _) (.num x) rfl (Box.new' _ _ _ (by simp)) (by omega) (by simp; omega) ?_; intro v' w4 hown4 hg4 hlt4)
            have B4 := Lib.hid ((B3.out.alloc hs3 _).grown hg4 (by simp; omega) (fun k hk => (hlt4 k hk).1))
            refine ⟨⟨k + 1, n + (1 - (.num x : ActD).takes), xs ++ [.num x], by congr 1, congrArg (Value.int .i64) (by simp only [ActD.takes]; omega), by omega, Hst.out (by simp only [ActD.takes]; omega), hown4, B4.out⟩, by simp [intOf]; omega⟩
          case name x y =>
            have Hst := Lib.hid (fun h3 => Hstep.out _ Hact.out h3)
            dsimp only [ActD.val]
            go_wp2_with fail
            refine (iTakes_name _ _ _).mono ?_
            rintro e w2 ⟨rfl, hb2⟩
            have B2 := Lib.hid (B1.out.trans (hb2.mono B1.out.size))
            have O2 := Lib.hid (O1.out.below hb2)
            have hs2 := B2.out.size
            clear hb2
            go_wp2_with fail
            refine (iTakes_name _ _ _).mono ?_
            rintro e w3 ⟨rfl, hb3⟩
            have B3 := Lib.hid (B2.out.trans (hb3.mono B2.out.size))
            have O3 := Lib.hid (O2.out.below hb3)
            have hs3 := B3.out.size
            clear hb3
            go_wp2_with (at_builtin; refine wpList_pushAct rfl _ _ rfl w.heap.size _ _ xs rfl _ (O3.out.alloc _) (.name x y) rfl (Box.new' _ _ _ (by simp)) (by omega) (by simp; omega) ?_; intro v' w4 hown4 hg4 hlt4)
            have B4 := Lib.hid ((B3.out.alloc hs3 _).grown hg4 (by simp; omega) (fun k hk => (hlt4 k hk).1))
            refine ⟨⟨k + 1, n + (1 - (.name x y : ActD).takes), xs ++ [.name x y], by congr 1, congrArg (Value.int .i64) (by simp only [ActD.takes]; omega), by omega, Hst.out (by simp only [ActD.takes]; omega), hown4, B4.out⟩, by simp [intOf]; omega⟩
          case pair x =>
            have Hst := Lib.hid (fun h3 => Hstep.out _ Hact.out h3)
            dsimp only [ActD.val]
            by_cases hq : 2 ≤ n
            · have hqb : decide (n < 2) = false := decide_eq_false (by omega)
              go_wp2_with fail
              refine (iTakes_pair _ _ _ _).mono ?_
              rintro e w2 ⟨rfl, hb2⟩
              have B2 := Lib.hid (B1.out.trans (hb2.mono B1.out.size))
              have O2 := Lib.hid (O1.out.below hb2)
              have hs2 := B2.out.size
              clear hb2
              go_wp2_with fail
              refine (iTakes_pair _ _ _ _).mono ?_
              rintro e w3 ⟨rfl, hb3⟩
              have B3 := Lib.hid (B2.out.trans (hb3.mono B2.out.size))
              have O3 := Lib.hid (O2.out.below hb3)
              have hs3 := B3.out.size
              clear hb3
              go_wp2_with (at_builtin; refine wpList_pushAct rfl _ _ rfl w.heap.size _ _ xs rfl _ (O3.out.alloc _) (.pair x) rfl (Box.new' _ _ _ (by simp)) (by omega) (by simp; omega) ?_; intro v' w4 hown4 hg4 hlt4)
              have B4 := Lib.hid ((B3.out.alloc hs3 _).grown hg4 (by simp; omega) (fun k hk => (hlt4 k hk).1))
              refine ⟨⟨k + 1, n + (1 - (.pair x : ActD).takes), xs ++ [.pair x], by congr 1, congrArg (Value.int .i64) (by simp only [ActD.takes]; omega), by omega, Hst.out (by simp only [ActD.takes]; omega), hown4, B4.out⟩, by simp [intOf]; omega⟩
            · have hqb : decide (n < 2) = true := decide_eq_true (by omega)
              go_wp2_with fail
              refine (iTakes_pair _ _ _ _).mono ?_
              rintro e w2 ⟨rfl, hb2⟩
              have B2 := Lib.hid (B1.out.trans (hb2.mono B1.out.size))
              clear hb2
              go_wp2_with fail
              go_ret2
              exact ⟨⟨_, _, rfl, .inr ⟨fun ys h => Hstop.out (fun a ha => by rw [ha.unique Hact.out]; exact hq) ⟨_, _, h.2⟩, rfl⟩⟩, B2.out⟩
          case minus =>
            have Hst := Lib.hid (fun h3 => Hstep.out _ Hact.out h3)
            dsimp only [ActD.val]
            by_cases hq : 1 ≤ n
            · have hqb : decide (n < 1) = false := decide_eq_false (by omega)
              go_wp2_with fail
              refine (iTakes_minus _).mono ?_
              rintro e w2 ⟨rfl, hb2⟩
              have B2 := Lib.hid (B1.out.trans (hb2.mono B1.out.size))
              have O2 := Lib.hid (O1.out.below hb2)
              have hs2 := B2.out.size
              clear hb2
              go_wp2_with fail
              refine (iTakes_minus _).mono ?_
              rintro e w3 ⟨rfl, hb3⟩
              have B3 := Lib.hid (B2.out.trans (hb3.mono B2.out.size))
              have O3 := Lib.hid (O2.out.below hb3)
              have hs3 := B3.out.size
              clear hb3
              go_wp2_with (at_builtin; refine wpList_pushAct rfl _ _ rfl w.heap.size _ _ xs rfl _ (O3.out.alloc _) .minus rfl (Box.new' _ _ _ (by simp)) (by omega) (by simp; omega) ?_; intro v' w4 hown4 hg4 hlt4)
              have B4 := Lib.hid ((B3.out.alloc hs3 _).grown hg4 (by simp; omega) (fun k hk => (hlt4 k hk).1))
              refine ⟨⟨k + 1, n + (1 - (.minus : ActD).takes), xs ++ [.minus], by congr 1, congrArg (Value.int .i64) (by simp only [ActD.takes]; omega), by omega, Hst.out (by simp only [ActD.takes]; omega), hown4, B4.out⟩, by simp [intOf]; omega⟩
            · have hqb : decide (n < 1) = true := decide_eq_true (by omega)
              go_wp2_with fail
              refine (iTakes_minus _).mono ?_
              rintro e w2 ⟨rfl, hb2⟩
              have B2 := Lib.hid (B1.out.trans (hb2.mono B1.out.size))
              clear hb2
              go_wp2_with fail
              go_ret2
              exact ⟨⟨_, _, rfl, .inr ⟨fun ys h => Hstop.out (fun a ha => by rw [ha.unique Hact.out]; exact hq) ⟨_, _, h.2⟩, rfl⟩⟩, B2.out⟩
        · have Hno := Lib.hid hno
          clear hno
          go_wp2_with fail
          go_ret2
          exact ⟨⟨_, _, rfl, .inr ⟨fun ys h => Hstop.out (fun a ha => absurd ha (Hno.out a)) ⟨_, _, h.2⟩, rfl⟩⟩, B1.out⟩
      · obtain rfl : k = l.length := by omega
        have To2 := Lib.hid (List.take_length ▸ To.out)
        clear hxl hn1
        have Hbel := Lib.hid hbel
        clear hbel
        by_cases h1 : n = 1
        · have h1b : (n == 1) = true := beq_iff_eq.2 h1
          have H1 := Lib.hid h1
          clear h1
          go_wp2_with fail
          go_ret2
          exact ⟨⟨_, _, rfl, .inl ⟨xs, ⟨hl, H1.out ▸ To2.out⟩, Hown.out, rfl⟩⟩, Hbel.out⟩
        · have h1b : (n == 1) = false := beq_eq_false_iff_ne.2 h1
          have H1 := Lib.hid h1
          clear h1
          go_wp2_with fail
          go_ret2
          exact ⟨⟨_, _, rfl, .inr ⟨fun ys h => H1.out (To2.out.unique h.2).1, rfl⟩⟩, Hbel.out⟩
  · go_wp2_with fail
    go_ret2
    exact ⟨⟨_, _, rfl, .inr ⟨fun xs h => hl h.1, rfl⟩⟩, Below.refl _ _⟩

theorem iGoodExpr (a : Option Addr) (c : Nat) (l : List StepD) (w : World) (hk : Kept w) (hcm : ∀ t ∈ l, t.fName.size ≤ maxLen ∧ t.fMod.size ≤ maxLen) (hr : Rows stepS Any w a l) :
    Calls Tryd.prog 37 #[.slice a l.length c] w fun e w' => e = .returned (.bool (goodEB l)) ∧ Below w.heap.size w w' := by
  have Hg := Lib.hid (iActionsOf a c l w hk hcm hr)
  clear hk hcm hr
  go_enter Tryd.func37, Tryd.ntmps37
  go_wp2_with fail
  refine Hg.out.mono ?_
  rintro e w1 ⟨⟨v, ok, rfl, hd⟩, hb⟩
  have Hd := Lib.hid (show ok = goodEB l by
    rcases hd with ⟨xs, h1, _, rfl⟩ | ⟨h1, rfl⟩
    · exact (goodEB_true h1).symm
    · exact (goodEB_false h1).symm)
  clear hd
  go_wp2_with fail
  go_ret
  exact ⟨by rw [Hd.out]; rfl, hb⟩
end Go.Proofs.YteajdempddklgaaDoor
