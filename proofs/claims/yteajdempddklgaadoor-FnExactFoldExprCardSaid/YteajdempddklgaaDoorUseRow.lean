
/-
  What is proved: rows of uses that the call owns: append on them, whether one is there, marks in them; a use copied. No condition beside what each theorem states.
-/
import Derived.Test.YteajdempddklgaaDoorMkUse
import Derived.Test.YteajdempddklgaaDoorUnlike
import Derived.Test.YteajdempddklgaaDoorAct
import Derived.Test.YteajdempddklgaaDoorStrClone
import Derived.Deep.AppendLies
import Derived.Deep.QuietTactic
import Derived.BigQuiet
import Derived.Deep.RegionHeld3
import Derived.Deep.RegionWith
namespace Go.Proofs.YteajdempddklgaaDoor
open Go.ChangeShapes Go.WideShapes Go.ChangeAt Go.RowKit
set_option maxRecDepth 100000

theorem flat_len {T : Type} (f : T → List Value) (n : Nat) (hf : ∀ x, (f x).length = n) : ∀ l : List T, (l.flatMap f).length = l.length * n
  | [] => by simp
  | x :: l => by
    rw [List.flatMap_cons, List.length_append, hf, flat_len f n hf l, List.length_cons, Nat.add_mul]
    omega
theorem flat_at {T : Type} (f : T → List Value) (n : Nat) (hf : ∀ x, (f x).length = n) : ∀ (l : List T) (k : Nat) (h : k < l.length) (j : Nat), j < n → (l.flatMap f)[k * n + j]? = (f l[k])[j]?
  | [], k, h, _, _ => absurd h (by simp)
  | x :: l, k, h, j, hj => by
    rw [List.flatMap_cons]
    cases k with
    | zero => rw [Nat.zero_mul, Nat.zero_add, List.getElem?_append_left (by rw [hf]; exact hj)]; rfl
    | succ k =>
      rw [List.getElem?_append_right (by rw [hf, Nat.add_mul]; omega), hf, show (k + 1) * n + j - n = k * n + j by rw [Nat.add_mul]; omega, flat_at f n hf l k (by simpa using h) j hj]
      rfl
def useCells (t : UseD) : List Value := [.string t.fMod, .string t.fName]
def OwnUses (w : World) (B : Nat) (v : Value) (l : List UseD) : Prop := w.ownsRow B 61 2 v l.length (l.flatMap useCells)
theorem OwnUses.nil {w : World} {B : Nat} : OwnUses w B (.slice none 0 0) [] := World.ownsRow_nil _ _ _ _
theorem OwnUses.alloc {w : World} {B : Nat} {v : Value} {l : List UseD} (h : OwnUses w B v l) (o : Obj) : OwnUses (w.alloc o) B v l := World.ownsRow.alloc h o
theorem OwnUses.lower {w : World} {B B' : Nat} {v : Value} {l : List UseD} (h : OwnUses w B v l) (hB : B' ≤ B) : OwnUses w B' v l :=
  ⟨h.1, h.2.imp id (fun ⟨g, cap, cur, h1, h2, h3⟩ => ⟨g, cap, cur, h1, Nat.le_trans hB h2, h3⟩)⟩
theorem OwnUses.below {w w' : World} {B : Nat} {v : Value} {l : List UseD} (h : OwnUses w B v l) (hb : Below w.heap.size w w') : OwnUses w' B v l :=
  ⟨h.1, h.2.imp id (fun ⟨g, cap, cur, h1, h2, h3, h4⟩ => ⟨g, cap, cur, h1, h2, (hb.block g (Array.getElem?_eq_some_iff.1 h3).1).trans h3, h4⟩)⟩
theorem use_len (t : UseD) : (useCells t).length = 2 := rfl
theorem useRows_of {w : World} {B : Nat} {a : Option Addr} {l : List UseD} (h : OwnC w B a (l.flatMap useCells)) : Rows useS (fun b => B ≤ b) w a l := fun i hi => by
  rcases h with h3 | ⟨g, t, cur, rfl, hb, hx, hs, hc⟩
  · have := flat_len useCells 2 use_len l
    rw [h3] at this
    simp at this
    omega
  · have hn : useS.n = 2 := rfl
    refine ⟨g, 0, useCells l[i], rfl, hb, hx.lt, fun j hj => ?_, rfl⟩
    have hl := flat_len useCells 2 use_len l
    rw [hn] at hj ⊢
    rw [Nat.zero_add, hx.cell, hc (i * 2 + j) (by rw [hl]; omega), flat_at useCells 2 use_len l i hi j hj]
theorem OwnUses.rows {w : World} {B : Nat} {v : Value} {l : List UseD} (h : OwnUses w B v l) : ∃ a c, v = .slice a l.length c ∧ l.length ≤ c ∧ c ≤ maxLen ∧ OwnC w B a (l.flatMap useCells) ∧ Rows useS (fun b => B ≤ b) w a l := by
  obtain ⟨a, c, rfl, h1, h2, h3⟩ := ownC_of_row h
  exact ⟨a, c, rfl, h1, h2, h3, useRows_of h3⟩

/-- append of one Known to a row of these that the call owns. -/
theorem wpList_pushUse {ops : Array Oper} {rest : List Oper} {o : Oper} {a : Act} {Q : Exit → Act → World → Prop} (hgd : o.guard = none) (s x : Operand)
    (ho : o.op = .call { callee := .builtin .append, args := #[s, x], argTypes := #[55, 55] })
    (B : Nat) (w : World) (v : Value) (l : List UseD) (hs : a.eval s = v) (g : Nat) (hown : OwnUses w B v l) (u : UseD) (hx : a.eval x = .slice (some ⟨g, 0, none⟩) 1 1) (hg : Box w g 61 #[.string u.fMod, .string u.fName])
    (h63 : l.length + 1 ≤ 1048577 + 1048576) (hbase : B ≤ w.heap.size)
    (h : ∀ v' w', OwnUses w' B v' (l ++ [u]) → w.grownBy w' v.ownBlock → (∀ k, v.ownBlock = some k → B ≤ k ∧ k < w.heap.size) → wpList Tryd.prog ops Q rest (a.put o.dst v') w') : wpList Tryd.prog ops Q (o :: rest) a w := by
  obtain ⟨i0, hi, hz0, hz1, hz2⟩ := info_parts infoUse
  refine wpList_append_own _ hgd s x 55 ho B 61 i0 _ 2 32 Tryd.underlying55 hi hz0 hz1 hz2 rfl (by decide) v l.length (l.flatMap useCells) hs hown ⟨g, 0, none⟩ 1 1 (useCells u) hx rfl ?_
    (fun y hy => by
      rcases List.mem_cons.1 hy with rfl | hy
      · rfl
      rw [List.mem_singleton.1 hy]
      rfl) (by unfold maxLen; omega) (by omega) (by omega) (fun v' w' h1 h2 _ => h v' w' (by unfold OwnUses; rw [List.flatMap_append, List.length_append]; simpa using h1) h2 (World.ownsRow.lt hown))
  intro j u' hu
  have e : (⟨g, 0, none⟩ : Addr).add j = ⟨g, j, none⟩ := by unfold Addr.add; split <;> simp_all
  rw [e, hg.cell]
  simpa [useCells] using hu

theorem eqTwo {P : Program} {t s : TypeId} {f0 f1 : Field} (hk : P.underlying t = some (.struct #[f0, f1])) (hp : P.stoodInHeld t = false)
    (n0 : (f0.name != "_") = true) (n1 : (f1.name != "_") = true) (t0 : f0.type = s) (t1 : f1.type = s) (o0 : f0.offset = 0) (o1 : f1.offset = 1) (hs : P.underlying s = some .string)
    (d : Nat) (o n o' n' : ByteArray) (W : World) : (Op.equalIn (d + 1 + 1) t (.agg #[.string o, .string n]) (.agg #[.string o', .string n'])).run P W = .ok ((o.toList == o'.toList) && (n.toList == n'.toList)) W := by
  have hf : P.fieldsOf t = #[f0, f1] := by unfold Program.fieldsOf; rw [hk]
  have ps := part_cell (P := P) (s := s) (by rw [hs])
  rw [bne_iff_ne] at n0 n1
  rw [run_equalIn_struct W (d + 1) t _ _ (by rw [hf]; exact hk) hp, hf]
  simp only [Op.eqFields, n0, n1, ne_eq, not_false_eq_true, if_true, t0, t1, o0, o1]
  cases h0 : (o.toList == o'.toList) <;> cases h1 : (n.toList == n'.toList) <;>
    simp [Sem.run_bind, ps, run_equalIn_string _ d s _ _ hs, Result.andThen, h0, h1]
theorem eqUse (m n m' n' : ByteArray) (W : World) : (Op.equalIn 10000 61 (.agg #[.string m, .string n]) (.agg #[.string m', .string n'])).run Tryd.prog W = .ok ((m.toList == m'.toList) && (n.toList == n'.toList)) W :=
  eqTwo Tryd.underlying61 (by kernel_rfl) (by decide) (by decide) rfl rfl rfl rfl Tryd.underlying9 9998 m n m' n' W
theorem use_eq (u v : UseD) (q : Bool) (h : q = true ↔ u = v) : ((u.fMod.toList == v.fMod.toList) && (u.fName.toList == v.fName.toList)) = q := by
  rw [Bool.eq_iff_iff, h, Bool.and_eq_true, beq_iff_eq, beq_iff_eq]
  have e : ∀ a b : ByteArray, a.toList = b.toList ↔ a = b := fun a b => ⟨fun h => ByteArray.ext (Array.ext' (by simpa [ByteArray.toList_eq] using h)), fun h => by rw [h]⟩
  rw [e, e]
  obtain ⟨a, b⟩ := u
  obtain ⟨c, d⟩ := v
  simp
open Classical in
noncomputable def hasU (l : List UseD) (u : UseD) : Bool := decide (u ∈ l)
theorem hasU_true {l : List UseD} {u : UseD} (h : u ∈ l) : hasU l u = true := by unfold hasU; simpa using h
theorem hasU_false {l : List UseD} {u : UseD} (h : u ∉ l) : hasU l u = false := by unfold hasU; simpa using h
theorem hasU_iff {l : List UseD} {u : UseD} : hasU l u = true ↔ u ∈ l := by unfold hasU; simp

set_option maxHeartbeats 2000000 in
theorem iIndexUse (a : Option Addr) (c : Nat) (l : List UseD) (u : UseD) (w : World) (hl : l.length ≤ 1048576) (hr : Rows useS Any w a l) :
    Calls Tryd.prog 106 #[.slice a l.length c, .agg #[.string u.fMod, .string u.fName]] w fun e w' => ∃ r : Int, e = .returned (.int .i64 r) ∧ (0 ≤ r ↔ u ∈ l) ∧ Below w.heap.size w w' := by
  obtain ⟨m, n⟩ := u
  dsimp only
  have B0 := Lib.hid ((Below.refl w.heap.size w).alloc (Nat.le_refl _) (.cells #[.string m, .string n] 61))
  have X0 := Lib.hid (Box.new w 61 #[.string m, .string n])
  have Hr := Lib.hid hr
  have He := Lib.hid eqUse
  clear hr
  go_enter Tryd.func106, Tryd.ntmps106
  go_wp2_with fail
  go_loopw [8] (fun i wr => ∃ k : Nat, i = .int .i64 k ∧ k ≤ l.length ∧ (∀ j (hj : j < l.length), j < k → l[j] ≠ ⟨m, n⟩) ∧ Box wr w.heap.size 61 #[.string m, .string n] ∧ Below w.heap.size w wr) (fun i _ => l.length - (intOf i).toNat)
  case atStart => exact ⟨0, rfl, by omega, fun j _ hj => absurd hj (by omega), X0.out, B0.out⟩
  case round =>
    obtain ⟨k, rfl, hk, hno, hx, hbel⟩ := hrel
    have Hno := Lib.hid hno
    have x0 : _ = some (Value.string m) := hx.cell 0
    have x1 : _ = some (Value.string n) := hx.cell 1
    have X := Lib.hid hx
    clear hno hx
    by_cases hlt : k < l.length
    · obtain ⟨b, o, cs, rfl, _, hb1, hc1, hat⟩ := Hr.out k hlt
      obtain rfl : cs = [.string l[k].fMod, .string l[k].fName] := hat
      have e0 := (hbel.cell (p := ⟨b, o + k * 2 + 0, none⟩) hb1).trans (hc1 0 (by decide))
      have e1 := (hbel.cell (p := ⟨b, o + k * 2 + 1, none⟩) hb1).trans (hc1 1 (by decide))
      simp at e0 e1
      have i1 : (0 : Int) ≤ (k : Int) := by omega
      have i2 : (k : Int) < (l.length : Int) := by omega
      have Hbel := Lib.hid hbel
      clear hbel hc1
      by_cases he : l[k] = ⟨m, n⟩
      · have Hy := Lib.hid (show (⟨m, n⟩ : UseD) ∈ l from he ▸ List.getElem_mem hlt)
        have h2 := fun W => (He.out m n l[k].fMod l[k].fName W).trans (congrArg (fun b => Result.ok b W) (use_eq ⟨m, n⟩ l[k] true (by simp [he])))
        clear he
        generalize l[k] = z at *
        go_wp2_with fail
        go_quiet (fail)
        go_wp2_with fail
        go_ret
        exact ⟨_, rfl, ⟨fun _ => Hy.out, fun _ => by omega⟩, belowN Hbel.out nq⟩
      · have Hno' := Lib.hid (show ∀ j (hj : j < l.length), j < k + 1 → l[j] ≠ ⟨m, n⟩ from fun j hj hjk => by
          by_cases e : j = k
          · subst e; exact he
          · exact Hno.out j hj (by omega))
        have h2 := fun W => (He.out m n l[k].fMod l[k].fName W).trans (congrArg (fun b => Result.ok b W) (use_eq ⟨m, n⟩ l[k] false (by simp [Ne.symm he])))
        clear he
        generalize l[k] = z at *
        go_wp2_with fail
        go_quiet (fail)
        go_wp2_with fail
        exact ⟨⟨k + 1, by congr 1, by omega, Hno'.out, X.out.drewN nq, belowN Hbel.out nq⟩, by simp [intOf]; omega⟩
    · have Hn := Lib.hid (show (⟨m, n⟩ : UseD) ∉ l from fun hm => by
        obtain ⟨j, hj, e⟩ := List.getElem_of_mem hm
        exact Hno.out j hj (by omega) e)
      have Hbel := Lib.hid hbel
      clear hbel
      go_wp2_with fail
      go_ret
      exact ⟨_, rfl, ⟨fun h => absurd h (by omega), fun h => absurd h Hn.out⟩, Hbel.out⟩

theorem iContainsUse (a : Option Addr) (c : Nat) (l : List UseD) (u : UseD) (w : World) (hl : l.length ≤ 1048576) (hr : Rows useS Any w a l) :
    Calls Tryd.prog 69 #[.slice a l.length c, .agg #[.string u.fMod, .string u.fName]] w fun e w' => e = .returned (.bool (hasU l u)) ∧ Below w.heap.size w w' := by
  have B0 := Lib.hid ((Below.refl w.heap.size w).alloc (Nat.le_refl _) (.cells #[.string u.fMod, .string u.fName] 61))
  have Hg := Lib.hid (iIndexUse a c l u _ hl (hr.below B0.out))
  clear hr
  go_enter Tryd.func69, Tryd.ntmps69
  go_wp2_with fail
  refine Hg.out.mono ?_
  rintro e w1 ⟨r, rfl, hiff, hb⟩
  have H := Lib.hid (show hasU l u = decide (0 ≤ r) by rw [Bool.eq_iff_iff, hasU_iff, decide_eq_true_eq, hiff])
  have B1 := Lib.hid (B0.out.trans (hb.mono B0.out.size))
  clear hiff hb
  go_wp2_with fail
  go_ret
  exact ⟨by rw [H.out]; rfl, B1.out⟩

theorem box_next {w wd w' : World} {g : Nat} {t : TypeId} {cs : Array Value} (h : Box w g t cs) (hd : wd.heap = w.heap) (hb : Below wd.heap.size wd w') : Box w' g t cs := by
  have h2 : Box wd g t cs := by unfold Box at h ⊢; rw [hd]; exact h
  exact h2.below hb h2.lt
theorem below_next {w0 w wd w' : World} (h : Below w0.heap.size w0 w) (ho : wd.os = w.os) (ht : wd.tape = w.tape) (hq : wd.output = w.output) (hd : wd.heap = w.heap) (hb : Below wd.heap.size wd w') : Below w0.heap.size w0 w' := by
  have h2 : Below w0.heap.size w0 wd := ⟨ho.trans h.os, ht.trans h.tape, hq.trans h.output, by rw [hd]; exact h.size, fun b hb2 => by rw [hd]; exact h.block b hb2⟩
  exact h2.trans (hb.mono h2.size)
set_option maxHeartbeats 4000000 in
theorem iClonedUse (m n : ByteArray) (w : World) (hm : m.size ≤ 1048576) (hn : n.size ≤ 1048576) : Calls Tryd.prog 70 #[.agg #[.string m, .string n]] w fun e w' => e = .returned (.agg #[.string m, .string n]) ∧ Below w.heap.size w w' := by
  have B0 := Lib.hid (((Below.refl w.heap.size w).alloc (Nat.le_refl _) (.cells #[.string m, .string n] 61)).alloc (by simp) (.cells #[.string ⟨#[]⟩, .string ⟨#[]⟩] 61))
  have X0 := Lib.hid ((Box.new w 61 #[.string m, .string n]).alloc (.cells #[.string ⟨#[]⟩, .string ⟨#[]⟩] 61))
  have Y0 := Lib.hid (Box.new' (w.alloc (.cells #[.string m, .string n] 61)) 61 #[.string ⟨#[]⟩, .string ⟨#[]⟩] (g := w.heap.size + 1) (by simp))
  go_enter Tryd.func70, Tryd.ntmps70
  go_wp2_with fail
  generalize (w.alloc (.cells #[.string m, .string n] 61)).alloc (.cells #[.string ⟨#[]⟩, .string ⟨#[]⟩] 61) = wq at *
  have x0 : _ = some (Value.string m) := X0.out.cell 0
  have x1 : _ = some (Value.string n) := X0.out.cell 1
  go_region_with (go_at_call 84; refine (iStrClone _ _ (by assumption)).mono ?_; rintro e wc ⟨rfl, hbc⟩; replace X0 := Lib.hid (box_next X0.out (by rfl) hbc); replace Y0 := Lib.hid (box_next Y0.out (by rfl) hbc); replace B0 := Lib.hid (below_next B0.out (by rfl) (by rfl) (by rfl) (by rfl) hbc); clear hbc x0 x1; have x0 : _ = some (Value.string m) := X0.out.cell 0; have x1 : _ = some (Value.string n) := X0.out.cell 1; have y0 : _ = some (Value.string ⟨#[]⟩) := Y0.out.cell 0; have y1 : _ = some (Value.string ⟨#[]⟩) := Y0.out.cell 1; have f0 := Y0.out.free 0; have f1 := Y0.out.free 1)
  all_goals
    go_wp2_with fail
    refine bodyPost_ret (results_one rfl Tryd.underlying61 rfl _ _ (w.heap.size + 1) #[.string m, .string n] rfl 61 ((Y0.out.set 0 _).set 1 _) 2 sizeUse rfl) rfl ?_
    exact ⟨rfl, (B0.out.setCell (by simp) _).setCell (by simp) _⟩
end Go.Proofs.YteajdempddklgaaDoor
