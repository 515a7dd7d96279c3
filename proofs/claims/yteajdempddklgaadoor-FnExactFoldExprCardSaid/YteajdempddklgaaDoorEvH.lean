
/-
  What is proved: contracts of the model's l5Eval and EvalExpr. No condition beside what each theorem states.
-/
import Derived.Test.YteajdempddklgaaDoorEvF
import Derived.Test.YteajdempddklgaaDoorEvG
namespace Go.Proofs.YteajdempddklgaaDoor
open Go.ChangeShapes Go.WideShapes Go.ChangeAt Go.RowKit
set_option maxRecDepth 100000

theorem OwnIs.form {w : World} {B : Nat} {v : Value} {st : List Int} (h : OwnIs w B v st) : ∃ a c, v = .slice a st.length c ∧ st.length ≤ c := by
  rcases h.at with ⟨rfl, rfl⟩ | ⟨g, c, rfl, h1, _⟩
  · exact ⟨none, 0, rfl, Nat.le_refl _⟩
  · exact ⟨_, c, rfl, h1⟩
theorem set_last {st : List Int} {m : Nat} (hm : st.length = m + 1) (x : Int) : st.set m x = st.take m ++ [x] := by
  apply List.ext_getElem?
  intro i
  rw [List.getElem?_set, List.getElem?_append]
  by_cases h1 : m = i
  · subst h1
    simp [hm]
  · simp only [if_neg h1, List.length_take, List.getElem?_take]
    by_cases h2 : i < m
    · rw [if_pos (by omega), if_pos h2]
    · rw [if_neg (by omega), List.getElem?_eq_none (by omega), List.getElem?_eq_none (by simp; omega)]
theorem OwnIs.heap {w w' : World} {B : Nat} {v : Value} {l : List Int} (h : OwnIs w B v l) (hh : w'.heap = w.heap) : OwnIs w' B v l := by
  unfold OwnIs World.ownsRow at *
  rw [hh]
  exact h
theorem heapN (w : World) (n : Nat) : (w.drewN n).heap = w.heap := by cases n <;> rfl
theorem cellN (w : World) (n : Nat) {p : Addr} : (w.drewN n).cell? p = w.cell? p := by unfold World.cell?; rw [heapN]
theorem OwnIs.drew1 {w : World} {B : Nat} {v : Value} {l : List Int} (h : OwnIs w B v l) : OwnIs w.drew B v l := h.heap rfl
theorem box_drew1 {w : World} {g : Nat} {t : TypeId} {cs : Array Value} (h : Box w g t cs) : Box w.drew g t cs := h
theorem cell_drew1 {w : World} {p : Addr} {v : Value} (o : Obj) (h : w.cell? p = some v) : ((w.alloc o).drew).cell? p = some v := (World.cell?_alloc_lt _ _ p (World.block_lt_of_cell? _ _ h)).trans h
/-- append of one number, at the operation. -/
theorem wp_pushI {o : Oper} {a : Act} {K : Act → World → Prop} {Q : Exit → Act → World → Prop} (s x : Operand)
    (ho : o.op = .call { callee := .builtin .append, args := #[s, x], argTypes := #[131, 131] })
    (B : Nat) (w : World) (v : Value) (l : List Int) (hs : a.eval s = v) (g : Nat) (hown : OwnIs w B v l) (u : Int) (hx : a.eval x = .slice (some ⟨g, 0, none⟩) 1 1) (hg : Box w g 3 #[.int .i64 u])
    (h63 : l.length + 1 ≤ 1048577 + 1048576) (hbase : B ≤ w.heap.size)
    (h : ∀ v' w', OwnIs w' B v' (l ++ [u]) → w.grownBy w' v.ownBlock → (∀ k, v.ownBlock = some k → B ≤ k ∧ k < w.heap.size) → K (a.put o.dst v') w') : o.wp Tryd.prog a w K Q := by
  obtain ⟨i0, hi, hz0, hz1, hz2⟩ := info_parts infoI
  refine wp_append_own _ s x 131 ho B 3 i0 _ 1 8 Tryd.underlying131 hi hz0 hz1 hz2 rfl (by decide) v l.length (l.map (Value.int .i64)) hs hown ⟨g, 0, none⟩ 1 1 [.int .i64 u] hx rfl ?_
    (fun y hy => by
      rw [List.mem_singleton.1 hy]
      rfl) (by unfold maxLen; omega) (by omega) (by omega) (fun v' w' h1 h2 _ => h v' w' (by unfold OwnIs; rw [List.map_append, List.length_append]; simpa using h1) h2 (World.ownsRow.lt hown))
  intro j u' hu
  have e : (⟨g, 0, none⟩ : Addr).add j = ⟨g, j, none⟩ := by unfold Addr.add; split <;> simp_all
  rw [e, hg.cell]
  simpa using hu
theorem belowD {B : Nat} {w w' : World} (h : Below B w w') : Below B w w'.drew := ⟨h.os, h.tape, h.output, h.size, h.block⟩
theorem whole_int {v : Int} (h : wholeP v) : -1000000000 ≤ v ∧ v ≤ 1000000000 := h
set_option maxHeartbeats 32000000 in
theorem sl5Eval (a : Option Addr) (c : Nat) (l : List StepD) (a' : Option Addr) (c' : Nat) (ks : List KnownD) (xs : List ActD) (w : World) (hg : GoodE l xs) (hks : knownsP ks) (hr : Rows stepS Any w a l) (hr' : Rows knownS Any w a' ks) :
    Calls Tryd.prog 42 #[.slice a l.length c, .slice a' ks.length c'] w fun e w' => (∃ v cd, e = .returned (.tuple #[.int .i64 v, .int .i64 cd]) ∧ (v, cd) = ansV (runV ks xs)) ∧ Below w.heap.size w w' := by
  have hl40 : l.length ≤ 40 := hg.1
  have hkl := hks.1
  have Hlen := Lib.hid hg.2.len.1
  have Hact := Lib.hid hg.2.each
  have Hbal := Lib.hid hg.2.bal
  have Hks := Lib.hid hks
  have Hr := Lib.hid hr
  have Hr' := Lib.hid hr'
  clear hg hks hr hr'
  go_enter Tryd.func42, Tryd.ntmps42
  go_wp2_with fail
  go_loopw [6, 18] (fun v i wr => ∃ (k : Nat) (st : List Int), i = .int .i64 k ∧ k ≤ l.length ∧ runV ks (xs.take k) = .run st ∧ Bal (xs.take k) (st.length : Int) ∧ (∀ x ∈ st, wholeP x) ∧ st.length ≤ k ∧ OwnIs wr w.heap.size v st ∧ Below w.heap.size w wr) (fun _ i _ => l.length - (intOf i).toNat)
  case atStart => exact ⟨0, [], rfl, by omega, rfl, .nil, fun x hx => absurd hx (by simp), Nat.le_refl _, OwnIs.nil, Below.refl _ _⟩
  case round =>
    obtain ⟨wo, hwo⟩ : ∃ x, x = wr := ⟨_, rfl⟩
    subst hwo
    obtain ⟨V0, hV0⟩ : ∃ x, x = u6 := ⟨_, rfl⟩
    subst hV0
    obtain ⟨k, st, rfl, hk, hrun, hb, hwh, hsl, hown, hbel⟩ := hrel
    have Hvl := Lib.hid (World.ownsRow.lt hown)
    have Hrun := Lib.hid hrun
    have Hb := Lib.hid hb
    have Hwh := Lib.hid hwh
    have Hown := Lib.hid hown
    have hs1 := hbel.size
    clear hrun hb hwh hown
    by_cases hlt : k < l.length
    · obtain ⟨b, o, cs, rfl, _, hb1, hc1, hat⟩ := Hr.out k hlt
      obtain rfl : cs = [.int .i64 l[k].fKind, .int .i64 l[k].fValue, .string l[k].fMod, .string l[k].fName] := hat
      have e0 := (hbel.cell (p := ⟨b, o + k * 4 + 0, none⟩) hb1).trans (hc1 0 (by decide))
      have e1 := (hbel.cell (p := ⟨b, o + k * 4 + 1, none⟩) hb1).trans (hc1 1 (by decide))
      have e2 := (hbel.cell (p := ⟨b, o + k * 4 + 2, none⟩) hb1).trans (hc1 2 (by decide))
      have e3 := (hbel.cell (p := ⟨b, o + k * 4 + 3, none⟩) hb1).trans (hc1 3 (by decide))
      simp at e0 e1 e2 e3
      have hxk : k < xs.length := by have := Hlen.out; omega
      have hact := Hact.out k hlt hxk
      have Hbel := Lib.hid hbel
      obtain ⟨hn1, hn2⟩ := Bal.need hxk Hbal.out Hb.out
      have Hn2 := Lib.hid hn2
      have hf := hact.fine
      have Hgood := Lib.hid (fun v (hd : doA ks st xs[k] = .good v) => runV_good hxk Hrun.out hd)
      have Hbad := Lib.hid (fun c (hd : doA ks st xs[k] = .bad c) => congrArg ansV (runV_bad hxk Hrun.out hd))
      have Hwv := Lib.hid (fun v (hd : doA ks st xs[k] = .good v) => doA_whole Hks.out.2 Hwh.out hf hd)
      clear hc1 hn2 hbel
      generalize xs[k] = z at *
      generalize l[k] = t at *
      obtain ⟨kd, vl, md, nm⟩ := t
      dsimp only at e0 e1 e2 e3
      have B1 := Lib.hid (Hbel.out.alloc hs1 (.cells #[.int .i64 kd, .int .i64 vl, .string md, .string nm] 72))
      have X1 := Lib.hid (Box.new wo 72 #[.int .i64 kd, .int .i64 vl, .string md, .string nm])
      have O1 := Lib.hid (Hown.out.alloc (.cells #[.int .i64 kd, .int .i64 vl, .string md, .string nm] 72))
      rcases hact with ⟨h1, hz1, hz2, hz3, hz4, rfl⟩ | ⟨h1, hz1, hz2, hz3, rfl⟩ | ⟨h1, hz1, rfl⟩ | ⟨j, hj, h1, hz1, rfl⟩
      · clear hz1 hz2 hz3 hz4
        replace h1 : kd = 1 := h1
        subst h1
        obtain ⟨aV, cV, rfl, _⟩ := OwnIs.form Hown.out
        have HG := Lib.hid (show runV ks (xs.take (k + 1)) = .run (st ++ [vl]) by have h := Hgood.out _ rfl; rwa [show st.length - ActD.takesN _ = st.length from rfl, List.take_length] at h)
        have HW := Lib.hid (show ∀ y ∈ st ++ [vl], wholeP y by have h := stack_whole st.length Hwh.out (Hwv.out _ rfl); rwa [List.take_length] at h)
        have hwv := decide_eq_true (Hwv.out _ rfl)
        have HB := Lib.hid (show Bal (xs.take (k + 1)) ((st ++ [vl]).length : Int) by have h := Hn2.out; rwa [show ((st.length : Int) + (1 - ActD.takes _)) = ((st ++ [vl]).length : Int) from by simp only [ActD.takes, List.length_append, List.length_singleton]; omega] at h)
        clear Hgood Hbad Hwv Hn2 hf hn1
        have hs2 : w.heap.size ≤ wo.heap.size + 1 := by omega
        go_wp2_with (first | (go_at_call 74; refine (sWholeAs hwv).mono ?_; rintro e w' ⟨rfl, rfl⟩) | (at_builtin; refine wpList_pushI rfl _ _ rfl w.heap.size _ _ (st) rfl _ (O1.out.alloc _) (vl) rfl (Box.new' _ _ _ (by simp)) (by first | omega | (simp; done) | (simp; omega)) (by simp; omega) ?_; intro v' w4 hown4 hg4 hlt4; have HOwn := Lib.hid hown4; obtain ⟨g3, c3, rfl, hc3, hg3, hd3⟩ := OwnIs.top hown4 rfl; clear hown4))
        have B5 := Lib.hid ((B1.out.alloc (by simp; omega) _).grown hg4 (by simp; omega) (fun k hk => (hlt4 k hk).1))
        exact ⟨⟨k + 1, st ++ [vl], by congr 1, by omega, HG.out, HB.out, HW.out, by first | (simp; done) | (simp; omega), HOwn.out, B5.out⟩, by simp [intOf]; omega⟩
      · clear hz1 hz2 hz3
        replace h1 : kd = 2 := h1
        subst h1
        obtain ⟨aV, cV, rfl, _⟩ := OwnIs.form Hown.out
        have hpre : ∀ v, knownV ks md nm = some v → runV ks (xs.take (k + 1)) = .run (st ++ [v]) ∧ (∀ y ∈ st ++ [v], wholeP y) ∧ wholeP v := fun v hv => by
          have hd : doA ks st (.name md nm) = .good v := by show nameR ks md nm = _; unfold nameR; rw [hv]
          have h := Hgood.out _ hd
          have h2 := stack_whole st.length Hwh.out (Hwv.out _ hd)
          rw [show st.length - ActD.takesN (.name md nm) = st.length from rfl, List.take_length] at h
          rw [List.take_length] at h2
          exact ⟨h, h2, Hwv.out _ hd⟩
        have Hpre := Lib.hid hpre
        have HB := Lib.hid (show ∀ v : Int, Bal (xs.take (k + 1)) ((st ++ [v]).length : Int) from fun v => by have h := Hn2.out; rwa [show ((st.length : Int) + (1 - ActD.takes _)) = ((st ++ [v]).length : Int) from by simp only [ActD.takes, List.length_append, List.length_singleton]; omega] at h)
        have HX := Lib.hid (fun h : knownV ks md nm = none => Hbad.out 1 (show nameR ks md nm = _ by unfold nameR; rw [h]))
        clear Hgood Hbad Hwv Hn2 hf hn1 hpre
        go_wp2_with fail
        generalize wo.alloc (.cells #[.int .i64 2, .int .i64 vl, .string md, .string nm] 72) = wq at *
        have hsq := B1.out.size
        go_loopw [6, 10, 86] (fun v q i wi => ∃ j : Nat, i = .int .i64 j ∧ j ≤ ks.length ∧ ((q = .bool false ∧ (ks.take j).find? (fun k => knownHit k md nm) = none ∧ v = .slice aV st.length cV ∧ Below wq.heap.size wq wi) ∨ (q = .bool true ∧ ∃ x, knownV ks md nm = some x ∧ OwnIs wi w.heap.size v (st ++ [x]))) ∧ Box wi wo.heap.size 72 #[.int .i64 2, .int .i64 vl, .string md, .string nm] ∧ Below w.heap.size w wi) (fun _ _ i _ => ks.length - (intOf i).toNat)
        case atStart => exact ⟨0, rfl, by omega, .inl ⟨rfl, rfl, rfl, Below.refl _ _⟩, X1.out, B1.out⟩
        case round =>
          obtain ⟨wi, hwi⟩ : ∃ x, x = wr := ⟨_, rfl⟩
          subst hwi
          obtain ⟨j, rfl, hj, hcase, hx, hbi⟩ := hrel
          have x0 : _ = some (Value.int .i64 2) := hx.cell 0
          have x2 : _ = some (Value.string md) := hx.cell 2
          have x3 : _ = some (Value.string nm) := hx.cell 3
          have hxl := hx.lt
          have hsi := hbi.size
          have Xi := Lib.hid hx
          have Bi := Lib.hid hbi
          have Ri := Lib.hid (Hr'.out.below hbi)
          clear hx hbi
          by_cases hlt2 : j < ks.length
          · obtain ⟨b2, o2, cs, rfl, _, hb3, hc3, hat⟩ := Ri.out j hlt2
            obtain rfl : cs = [.string ks[j].fMod, .string ks[j].fName, .int .i64 ks[j].fValue] := hat
            have d0 := hc3 0 (by decide)
            have d1 := hc3 1 (by decide)
            have d2 := hc3 2 (by decide)
            rw [show knownS.n = 3 from rfl] at d0 d1 d2
            simp at d0 d1 d2
            clear hc3
            rcases hcase with ⟨rfl, hno, rfl, hbq⟩ | ⟨rfl, x, hkv, hown⟩
            · have hsq2 := hbq.size
              have Hbq := Lib.hid (hbq.alloc hsq2 (.cells #[.string ks[j].fMod, .string ks[j].fName, .int .i64 ks[j].fValue] 59))
              have Ho := Lib.hid ((O1.out.below hbq).alloc (.cells #[.string ks[j].fMod, .string ks[j].fName, .int .i64 ks[j].fValue] 59))
              have Hs := Lib.hid ((known_snoc hlt2 md nm).trans (by rw [hno, Option.none_or]))
              have Hy := Lib.hid (fun hh => known_first hlt2 hno hh)
              clear hno hbq
              by_cases q1 : (ks[j].fMod.toList == md.toList) = true
              · by_cases q2 : (ks[j].fName.toList == nm.toList) = true
                · have Hv := Lib.hid (Hy.out (by unfold knownHit; rw [q1, q2]; rfl))
                  generalize ks[j] = z at *
                  have hs7 : w.heap.size ≤ wi.heap.size + 1 := by omega
                  go_wp2_with (at_builtin; refine wpList_pushI rfl _ _ rfl w.heap.size _ _ (st) rfl _ (Ho.out.alloc _) (z.fValue) rfl (Box.new' _ _ _ (by simp)) (by first | omega | (simp; done) | (simp; omega)) (by simp; omega) ?_; intro v' w4 hown4 hg4 hlt4; have HOwn := Lib.hid hown4; obtain ⟨g3, c3, rfl, hc3, hg3, hd3⟩ := OwnIs.top hown4 rfl; clear hown4)
                  have B5 := Lib.hid (((Bi.out.alloc hsi _).alloc (by simp; omega) _).grown hg4 (by simp; omega) (fun k hk => (hlt4 k hk).1))
                  have hbx4 := ((Xi.out.alloc (.cells #[.string z.fMod, .string z.fName, .int .i64 z.fValue] 59)).alloc (.cells #[.int .i64 z.fValue] 3))
                  exact ⟨⟨j + 1, by congr 1, by omega, .inr ⟨rfl, _, Hv.out, HOwn.out⟩, (hg4.block _ (hbx4.lt) (fun e => absurd (Hvl.out _ e.symm).2 (by omega))).trans hbx4, B5.out⟩, by simp [intOf]; omega⟩
                · rw [Bool.not_eq_true] at q2
                  have Hn := Lib.hid (show (ks.take (j + 1)).find? (fun k => knownHit k md nm) = none by rw [Hs.out]; unfold knownHit; simp only [q1, q2, Bool.and_false, Bool.false_eq_true, if_false])
                  generalize ks[j] = z at *
                  go_wp2_with fail
                  exact ⟨⟨j + 1, by congr 1, by omega, .inl ⟨rfl, Hn.out, rfl, Hbq.out⟩, Xi.out.alloc _, Bi.out.alloc hsi _⟩, by simp [intOf]; omega⟩
              · rw [Bool.not_eq_true] at q1
                have Hn := Lib.hid (show (ks.take (j + 1)).find? (fun k => knownHit k md nm) = none by rw [Hs.out]; unfold knownHit; simp only [q1, Bool.false_and, Bool.false_eq_true, if_false])
                generalize ks[j] = z at *
                go_wp2_with fail
                exact ⟨⟨j + 1, by congr 1, by omega, .inl ⟨rfl, Hn.out, rfl, Hbq.out⟩, Xi.out.alloc _, Bi.out.alloc hsi _⟩, by simp [intOf]; omega⟩
            · have Ho := Lib.hid (hown.alloc (.cells #[.string ks[j].fMod, .string ks[j].fName, .int .i64 ks[j].fValue] 59))
              have Hkv := Lib.hid hkv
              clear hkv hown
              generalize ks[j] = z at *
              go_wp2_with fail
              exact ⟨⟨j + 1, by congr 1, by omega, .inr ⟨rfl, _, Hkv.out, Ho.out⟩, Xi.out.alloc _, Bi.out.alloc hsi _⟩, by simp [intOf]; omega⟩
          · obtain rfl : j = ks.length := by omega
            rcases hcase with ⟨rfl, hno, _, _⟩ | ⟨rfl, x, hkv, hown⟩
            · have HZ := Lib.hid (HX.out (by rw [List.take_length] at hno; unfold knownV; rw [hno]; rfl))
              clear hno
              go_wp2_with fail
              go_ret2
              exact ⟨⟨_, _, rfl, HZ.out.symm⟩, Bi.out⟩
            · have hp := Hpre.out x hkv
              have HG := Lib.hid hp.1
              have HW := Lib.hid hp.2.1
              have hwv := decide_eq_true hp.2.2
              have HOwn := Lib.hid hown
              clear hp hkv hown
              obtain ⟨g3, c3, rfl, hc3, hg3, hd3⟩ := OwnIs.top (S := st) (x := x) HOwn.out rfl
              go_wp2_with (go_at_call 74; refine (sWholeAs hwv).mono ?_; rintro e w' ⟨rfl, rfl⟩)
              exact ⟨⟨k + 1, st ++ [x], by congr 1, by omega, HG.out, HB.out x, HW.out, by first | (simp; done) | (simp; omega), HOwn.out, Bi.out⟩, by simp [intOf]; omega⟩
      · clear hz1
        replace h1 : kd = 8 := h1
        subst h1
        have hn1 : (1 : Int) ≤ (st.length : Int) := hn1
        obtain ⟨m, hm⟩ : ∃ m, st.length = m + 1 := ⟨st.length - 1, by omega⟩
        rcases O1.out.at with ⟨rfl, rfl⟩ | ⟨g2, cc, rfl, hcap, hmx, hB, hg2, cur, hbx, hcs, htk⟩
        · simp at hm
        · have c0 := (hbx.cell m).trans (take_cell htk (k := m) (by omega))
          have f0 := hbx.free m
          have wx := whole_int (getD_whole Hwh.out m)
          have Hdo := Lib.hid (show doA ks st .minus = .good (-(st.getD m 0)) by show VR.good (-(st.getD (st.length - 1) 0)) = _; rw [hm]; rfl)
          have Hset := Lib.hid (show st.set m (-(st.getD m 0)) = st.take m ++ [-(st.getD m 0)] from set_last hm _)
          generalize st.getD m 0 = p at *
          have HG := Lib.hid (show runV ks (xs.take (k + 1)) = .run (st.take m ++ [(-p)]) by have h := Hgood.out _ Hdo.out; rwa [show st.length - ActD.takesN _ = m from by rw [hm]; rfl] at h)
          have HW := Lib.hid (show ∀ y ∈ st.take m ++ [(-p)], wholeP y by exact stack_whole m Hwh.out (Hwv.out _ Hdo.out))
          have hwv := decide_eq_true (Hwv.out _ Hdo.out)
          have HB := Lib.hid (show Bal (xs.take (k + 1)) ((st.take m ++ [(-p)]).length : Int) by have h := Hn2.out; rwa [show ((st.length : Int) + (1 - ActD.takes _)) = ((st.take m ++ [(-p)]).length : Int) from by simp only [ActD.takes, List.length_append, List.length_singleton, List.length_take]; omega] at h)
          clear Hgood Hbad Hwv Hn2 hf
          have HOwn := Lib.hid (show OwnIs _ w.heap.size _ (st.take m ++ [-p]) by have h := OwnIs.set O1.out (k := m) (by omega) (-p); rw [Hset.out, hm] at h; exact h)
          have B5 := Lib.hid (B1.out.setCell (p := ⟨g2, m, none⟩) hB (.int .i64 (-p)))
          clear hbx htk hcs
          go_wp2_with (go_at_call 74; refine (sWholeAs hwv).mono ?_; rintro e w' ⟨rfl, rfl⟩)
          exact ⟨⟨k + 1, st.take m ++ [-p], by congr 1, by omega, HG.out, HB.out, HW.out, by first | (simp; done) | (simp; omega), HOwn.out, B5.out⟩, by simp [intOf]; omega⟩
      · clear hz1
        have H1 := Lib.hid (show kd = 3 + (j : Int) from h1)
        clear h1
        have hn1 : (2 : Int) ≤ (st.length : Int) := hn1
        obtain ⟨m, hm⟩ : ∃ m, st.length = m + 2 := ⟨st.length - 2, by omega⟩
        rcases O1.out.at with ⟨rfl, rfl⟩ | ⟨g2, cc, rfl, hcap, hmx, hB, hg2, cur, hbx, hcs, htk⟩
        · simp at hm
        · have c0 := (hbx.cell m).trans (take_cell htk (k := m) (by omega))
          have c1 := (hbx.cell (m + 1)).trans (take_cell htk (k := m + 1) (by omega))
          clear hn1
          have wx := getD_whole Hwh.out m
          have wy := getD_whole Hwh.out (m + 1)
          generalize hp0 : st.getD m 0 = p at *
          generalize hq0 : st.getD (m + 1) 0 = q at *
          have Hdo := Lib.hid (show doA ks st (.pair j) = pairR j p q by show pairR j (st.getD (st.length - 2) 0) (st.getD (st.length - 1) 0) = _; rw [hm, ← hp0, ← hq0]; rfl)
          have HO := Lib.hid (fun W (h : OwnIs W w.heap.size (.slice (some ⟨g2, 0, none⟩) (m + 2) cc) st) => (show OwnIs W w.heap.size (.slice (some ⟨g2, 0, none⟩) m cc) (st.take m) from OwnIs.shrink (hm ▸ h) (by omega)))
          have y0 : _ = some (Value.int .i64 kd) := X1.out.cell 0
          clear hp0 hq0 hbx htk hcs
          have px := whole_int wx
          have qx := whole_int wy
          have hpv := val_in (j := j) wx wy
          have Wx := Lib.hid wx
          have Wy := Lib.hid wy
          clear wx wy
          match j, hj with
          | 0, _ =>
            have h1 : kd = 3 := H1.out
            clear H1
            subst h1
            have hb5 := B1.out.size
            by_cases hq : q = 0
            · have hq1 : (q == 0) = true := beq_iff_eq.2 hq
              clear hq
              have hno : ¬ (3 ≤ 0 ∧ q = 0) := by omega
              have Hdv := Lib.hid (fun W => sl5Do 0 (by omega) p q W Wx.out Wy.out (fun h => absurd h (by omega)))
              by_cases hw : wholeP (valZ 0 p q)
              · have hpr : pairR 0 p q = .good (valZ 0 p q) := by unfold pairR; rw [if_neg hno, if_pos hw]
                have HG := Lib.hid (show runV ks (xs.take (k + 1)) = .run (st.take m ++ [(valZ 0 p q)]) by have h := Hgood.out _ (Hdo.out.trans hpr); rwa [show st.length - ActD.takesN _ = m from by rw [hm]; rfl] at h)
                have HW := Lib.hid (show ∀ y ∈ st.take m ++ [(valZ 0 p q)], wholeP y by exact stack_whole m Hwh.out (Hwv.out _ (Hdo.out.trans hpr)))
                have hwv := decide_eq_true (Hwv.out _ (Hdo.out.trans hpr))
                have HB := Lib.hid (show Bal (xs.take (k + 1)) ((st.take m ++ [(valZ 0 p q)]).length : Int) by have h := Hn2.out; rwa [show ((st.length : Int) + (1 - ActD.takes _)) = ((st.take m ++ [(valZ 0 p q)]).length : Int) from by simp only [ActD.takes, List.length_append, List.length_singleton, List.length_take]; omega] at h)
                have hvz := hpv
                clear Hgood Hbad Hwv Hn2 hf hpr hw hpv
                generalize valZ 0 p q = vz at *
                clear hno
                go_wp2_with fail
                go_quiet (fail)
                go_wp2_with fail
                have B8 := Lib.hid (belowN B1.out nq)
                have y8 := (cellN _ nq).trans y0
                have O8 := Lib.hid (O1.out.heap (w' := World.drewN _ nq) (heapN _ nq))
                generalize World.drewN _ nq = w8 at *
                have P8 := Lib.hid (HO.out w8 (by have h := O8.out; rw [hm] at h; exact h))
                have hmc : (m : Int) ≤ (cc : Int) := by omega
                have hc0 : ¬ (cc = 0) := by omega
                have hwm : IntKind.i64.wrap (m : Int) = (m : Int) := IntWalk.i64_in _ (by omega)
                have hgl := (Hvl.out g2 rfl).2
                have hb8 := B8.out.size
                have htl : (st.take m).length = m := by rw [List.length_take]; omega
                go_region_held3 (fun w' => w'.cell? ⟨wo.heap.size, 0, none⟩ = some (.int .i64 3)) (first | assumption | go_keep) (first | (go_at_call 75; refine (Hdv.out _).mono ?_; rintro e w9 ⟨rfl, rfl⟩) | (refine Eq.mpr (if_pos (by rfl)) ?_; refine wp_pushI _ _ rfl w.heap.size _ _ (st.take m) rfl _ (((P8.out).alloc _).drew1) vz rfl (box_drew1 (Box.new' _ _ _ rfl)) (by first | omega | (simp; done) | (simp; omega)) (by first | omega | (simp; done) | (simp; omega)) ?_; intro v' w4 hown4 hg4 hlt4; have HOwn := Lib.hid hown4; have hk4 := hg4.cell (a := ⟨wo.heap.size, 0, none⟩) (cell_drew1 _ y8) (by intro he; injection he with he; exact Nat.ne_of_gt hgl he); have B9 := Lib.hid ((belowD (B8.out.alloc hb8 _)).grown hg4 (by first | omega | (simp; done) | (simp; omega)) (fun k hk => (hlt4 k hk).1)); obtain ⟨g3, c3, rfl, hc3, hg3, hd3⟩ := OwnIs.top hown4 htl; clear hown4 hg4 hlt4))
                go_wp2_with (go_at_call 74; refine (sWholeAs hwv).mono ?_; rintro e w' ⟨rfl, rfl⟩)
                exact ⟨⟨k + 1, st.take m ++ [vz], by congr 1, by omega, HG.out, HB.out, HW.out, by first | (simp; done) | (simp; omega), HOwn.out, B9.out⟩, by simp [intOf]; omega⟩
              · have hpr : pairR 0 p q = .bad 3 := by unfold pairR; rw [if_neg hno, if_neg hw]
                have HX := Lib.hid (Hbad.out _ (Hdo.out.trans hpr))
                have hwv := decide_eq_false hw
                have hvz := hpv
                clear Hgood Hbad Hwv Hn2 hf hpr hw hpv
                generalize valZ 0 p q = vz at *
                clear hno
                go_wp2_with fail
                go_quiet (fail)
                go_wp2_with fail
                have B8 := Lib.hid (belowN B1.out nq)
                have y8 := (cellN _ nq).trans y0
                have O8 := Lib.hid (O1.out.heap (w' := World.drewN _ nq) (heapN _ nq))
                generalize World.drewN _ nq = w8 at *
                have P8 := Lib.hid (HO.out w8 (by have h := O8.out; rw [hm] at h; exact h))
                have hmc : (m : Int) ≤ (cc : Int) := by omega
                have hc0 : ¬ (cc = 0) := by omega
                have hwm : IntKind.i64.wrap (m : Int) = (m : Int) := IntWalk.i64_in _ (by omega)
                have hgl := (Hvl.out g2 rfl).2
                have hb8 := B8.out.size
                have htl : (st.take m).length = m := by rw [List.length_take]; omega
                go_region_held3 (fun w' => w'.cell? ⟨wo.heap.size, 0, none⟩ = some (.int .i64 3)) (first | assumption | go_keep) (first | (go_at_call 75; refine (Hdv.out _).mono ?_; rintro e w9 ⟨rfl, rfl⟩) | (refine Eq.mpr (if_pos (by rfl)) ?_; refine wp_pushI _ _ rfl w.heap.size _ _ (st.take m) rfl _ (((P8.out).alloc _).drew1) vz rfl (box_drew1 (Box.new' _ _ _ rfl)) (by first | omega | (simp; done) | (simp; omega)) (by first | omega | (simp; done) | (simp; omega)) ?_; intro v' w4 hown4 hg4 hlt4; have HOwn := Lib.hid hown4; have hk4 := hg4.cell (a := ⟨wo.heap.size, 0, none⟩) (cell_drew1 _ y8) (by intro he; injection he with he; exact Nat.ne_of_gt hgl he); have B9 := Lib.hid ((belowD (B8.out.alloc hb8 _)).grown hg4 (by first | omega | (simp; done) | (simp; omega)) (fun k hk => (hlt4 k hk).1)); obtain ⟨g3, c3, rfl, hc3, hg3, hd3⟩ := OwnIs.top hown4 htl; clear hown4 hg4 hlt4))
                go_wp2_with (go_at_call 74; refine (sWholeAs hwv).mono ?_; rintro e w' ⟨rfl, rfl⟩)
                go_ret2
                exact ⟨⟨_, _, rfl, HX.out.symm⟩, B9.out⟩
            · have hq1 : (q == 0) = false := beq_eq_false_iff_ne.2 hq
              clear hq
              have hno : ¬ (3 ≤ 0 ∧ q = 0) := by omega
              have Hdv := Lib.hid (fun W => sl5Do 0 (by omega) p q W Wx.out Wy.out (fun h => absurd h (by omega)))
              by_cases hw : wholeP (valZ 0 p q)
              · have hpr : pairR 0 p q = .good (valZ 0 p q) := by unfold pairR; rw [if_neg hno, if_pos hw]
                have HG := Lib.hid (show runV ks (xs.take (k + 1)) = .run (st.take m ++ [(valZ 0 p q)]) by have h := Hgood.out _ (Hdo.out.trans hpr); rwa [show st.length - ActD.takesN _ = m from by rw [hm]; rfl] at h)
                have HW := Lib.hid (show ∀ y ∈ st.take m ++ [(valZ 0 p q)], wholeP y by exact stack_whole m Hwh.out (Hwv.out _ (Hdo.out.trans hpr)))
                have hwv := decide_eq_true (Hwv.out _ (Hdo.out.trans hpr))
                have HB := Lib.hid (show Bal (xs.take (k + 1)) ((st.take m ++ [(valZ 0 p q)]).length : Int) by have h := Hn2.out; rwa [show ((st.length : Int) + (1 - ActD.takes _)) = ((st.take m ++ [(valZ 0 p q)]).length : Int) from by simp only [ActD.takes, List.length_append, List.length_singleton, List.length_take]; omega] at h)
                have hvz := hpv
                clear Hgood Hbad Hwv Hn2 hf hpr hw hpv
                generalize valZ 0 p q = vz at *
                clear hno
                go_wp2_with fail
                go_quiet (fail)
                go_wp2_with fail
                have B8 := Lib.hid (belowN B1.out nq)
                have y8 := (cellN _ nq).trans y0
                have O8 := Lib.hid (O1.out.heap (w' := World.drewN _ nq) (heapN _ nq))
                generalize World.drewN _ nq = w8 at *
                have P8 := Lib.hid (HO.out w8 (by have h := O8.out; rw [hm] at h; exact h))
                have hmc : (m : Int) ≤ (cc : Int) := by omega
                have hc0 : ¬ (cc = 0) := by omega
                have hwm : IntKind.i64.wrap (m : Int) = (m : Int) := IntWalk.i64_in _ (by omega)
                have hgl := (Hvl.out g2 rfl).2
                have hb8 := B8.out.size
                have htl : (st.take m).length = m := by rw [List.length_take]; omega
                go_region_held3 (fun w' => w'.cell? ⟨wo.heap.size, 0, none⟩ = some (.int .i64 3)) (first | assumption | go_keep) (first | (go_at_call 75; refine (Hdv.out _).mono ?_; rintro e w9 ⟨rfl, rfl⟩) | (refine Eq.mpr (if_pos (by rfl)) ?_; refine wp_pushI _ _ rfl w.heap.size _ _ (st.take m) rfl _ (((P8.out).alloc _).drew1) vz rfl (box_drew1 (Box.new' _ _ _ rfl)) (by first | omega | (simp; done) | (simp; omega)) (by first | omega | (simp; done) | (simp; omega)) ?_; intro v' w4 hown4 hg4 hlt4; have HOwn := Lib.hid hown4; have hk4 := hg4.cell (a := ⟨wo.heap.size, 0, none⟩) (cell_drew1 _ y8) (by intro he; injection he with he; exact Nat.ne_of_gt hgl he); have B9 := Lib.hid ((belowD (B8.out.alloc hb8 _)).grown hg4 (by first | omega | (simp; done) | (simp; omega)) (fun k hk => (hlt4 k hk).1)); obtain ⟨g3, c3, rfl, hc3, hg3, hd3⟩ := OwnIs.top hown4 htl; clear hown4 hg4 hlt4))
                go_wp2_with (go_at_call 74; refine (sWholeAs hwv).mono ?_; rintro e w' ⟨rfl, rfl⟩)
                exact ⟨⟨k + 1, st.take m ++ [vz], by congr 1, by omega, HG.out, HB.out, HW.out, by first | (simp; done) | (simp; omega), HOwn.out, B9.out⟩, by simp [intOf]; omega⟩
              · have hpr : pairR 0 p q = .bad 3 := by unfold pairR; rw [if_neg hno, if_neg hw]
                have HX := Lib.hid (Hbad.out _ (Hdo.out.trans hpr))
                have hwv := decide_eq_false hw
                have hvz := hpv
                clear Hgood Hbad Hwv Hn2 hf hpr hw hpv
                generalize valZ 0 p q = vz at *
                clear hno
                go_wp2_with fail
                go_quiet (fail)
                go_wp2_with fail
                have B8 := Lib.hid (belowN B1.out nq)
                have y8 := (cellN _ nq).trans y0
                have O8 := Lib.hid (O1.out.heap (w' := World.drewN _ nq) (heapN _ nq))
                generalize World.drewN _ nq = w8 at *
                have P8 := Lib.hid (HO.out w8 (by have h := O8.out; rw [hm] at h; exact h))
                have hmc : (m : Int) ≤ (cc : Int) := by omega
                have hc0 : ¬ (cc = 0) := by omega
                have hwm : IntKind.i64.wrap (m : Int) = (m : Int) := IntWalk.i64_in _ (by omega)
                have hgl := (Hvl.out g2 rfl).2
                have hb8 := B8.out.size
                have htl : (st.take m).length = m := by rw [List.length_take]; omega
                go_region_held3 (fun w' => w'.cell? ⟨wo.heap.size, 0, none⟩ = some (.int .i64 3)) (first | assumption | go_keep) (first | (go_at_call 75; refine (Hdv.out _).mono ?_; rintro e w9 ⟨rfl, rfl⟩) | (refine Eq.mpr (if_pos (by rfl)) ?_; refine wp_pushI _ _ rfl w.heap.size _ _ (st.take m) rfl _ (((P8.out).alloc _).drew1) vz rfl (box_drew1 (Box.new' _ _ _ rfl)) (by first | omega | (simp; done) | (simp; omega)) (by first | omega | (simp; done) | (simp; omega)) ?_; intro v' w4 hown4 hg4 hlt4; have HOwn := Lib.hid hown4; have hk4 := hg4.cell (a := ⟨wo.heap.size, 0, none⟩) (cell_drew1 _ y8) (by intro he; injection he with he; exact Nat.ne_of_gt hgl he); have B9 := Lib.hid ((belowD (B8.out.alloc hb8 _)).grown hg4 (by first | omega | (simp; done) | (simp; omega)) (fun k hk => (hlt4 k hk).1)); obtain ⟨g3, c3, rfl, hc3, hg3, hd3⟩ := OwnIs.top hown4 htl; clear hown4 hg4 hlt4))
                go_wp2_with (go_at_call 74; refine (sWholeAs hwv).mono ?_; rintro e w' ⟨rfl, rfl⟩)
                go_ret2
                exact ⟨⟨_, _, rfl, HX.out.symm⟩, B9.out⟩
          | 1, _ =>
            have h1 : kd = 4 := H1.out
            clear H1
            subst h1
            have hb5 := B1.out.size
            by_cases hq : q = 0
            · have hq1 : (q == 0) = true := beq_iff_eq.2 hq
              clear hq
              have hno : ¬ (3 ≤ 1 ∧ q = 0) := by omega
              have Hdv := Lib.hid (fun W => sl5Do 1 (by omega) p q W Wx.out Wy.out (fun h => absurd h (by omega)))
              by_cases hw : wholeP (valZ 1 p q)
              · have hpr : pairR 1 p q = .good (valZ 1 p q) := by unfold pairR; rw [if_neg hno, if_pos hw]
                have HG := Lib.hid (show runV ks (xs.take (k + 1)) = .run (st.take m ++ [(valZ 1 p q)]) by have h := Hgood.out _ (Hdo.out.trans hpr); rwa [show st.length - ActD.takesN _ = m from by rw [hm]; rfl] at h)
                have HW := Lib.hid (show ∀ y ∈ st.take m ++ [(valZ 1 p q)], wholeP y by exact stack_whole m Hwh.out (Hwv.out _ (Hdo.out.trans hpr)))
                have hwv := decide_eq_true (Hwv.out _ (Hdo.out.trans hpr))
                have HB := Lib.hid (show Bal (xs.take (k + 1)) ((st.take m ++ [(valZ 1 p q)]).length : Int) by have h := Hn2.out; rwa [show ((st.length : Int) + (1 - ActD.takes _)) = ((st.take m ++ [(valZ 1 p q)]).length : Int) from by simp only [ActD.takes, List.length_append, List.length_singleton, List.length_take]; omega] at h)
                have hvz := hpv
                clear Hgood Hbad Hwv Hn2 hf hpr hw hpv
                generalize valZ 1 p q = vz at *
                clear hno
                go_wp2_with fail
                go_quiet (fail)
                go_wp2_with fail
                have B8 := Lib.hid (belowN B1.out nq)
                have y8 := (cellN _ nq).trans y0
                have O8 := Lib.hid (O1.out.heap (w' := World.drewN _ nq) (heapN _ nq))
                generalize World.drewN _ nq = w8 at *
                have P8 := Lib.hid (HO.out w8 (by have h := O8.out; rw [hm] at h; exact h))
                have hmc : (m : Int) ≤ (cc : Int) := by omega
                have hc0 : ¬ (cc = 0) := by omega
                have hwm : IntKind.i64.wrap (m : Int) = (m : Int) := IntWalk.i64_in _ (by omega)
                have hgl := (Hvl.out g2 rfl).2
                have hb8 := B8.out.size
                have htl : (st.take m).length = m := by rw [List.length_take]; omega
                go_region_held3 (fun w' => w'.cell? ⟨wo.heap.size, 0, none⟩ = some (.int .i64 4)) (first | assumption | go_keep) (first | (go_at_call 75; refine (Hdv.out _).mono ?_; rintro e w9 ⟨rfl, rfl⟩) | (refine Eq.mpr (if_pos (by rfl)) ?_; refine wp_pushI _ _ rfl w.heap.size _ _ (st.take m) rfl _ (((P8.out).alloc _).drew1) vz rfl (box_drew1 (Box.new' _ _ _ rfl)) (by first | omega | (simp; done) | (simp; omega)) (by first | omega | (simp; done) | (simp; omega)) ?_; intro v' w4 hown4 hg4 hlt4; have HOwn := Lib.hid hown4; have hk4 := hg4.cell (a := ⟨wo.heap.size, 0, none⟩) (cell_drew1 _ y8) (by intro he; injection he with he; exact Nat.ne_of_gt hgl he); have B9 := Lib.hid ((belowD (B8.out.alloc hb8 _)).grown hg4 (by first | omega | (simp; done) | (simp; omega)) (fun k hk => (hlt4 k hk).1)); obtain ⟨g3, c3, rfl, hc3, hg3, hd3⟩ := OwnIs.top hown4 htl; clear hown4 hg4 hlt4))
                go_wp2_with (go_at_call 74; refine (sWholeAs hwv).mono ?_; rintro e w' ⟨rfl, rfl⟩)
                exact ⟨⟨k + 1, st.take m ++ [vz], by congr 1, by omega, HG.out, HB.out, HW.out, by first | (simp; done) | (simp; omega), HOwn.out, B9.out⟩, by simp [intOf]; omega⟩
              · have hpr : pairR 1 p q = .bad 3 := by unfold pairR; rw [if_neg hno, if_neg hw]
                have HX := Lib.hid (Hbad.out _ (Hdo.out.trans hpr))
                have hwv := decide_eq_false hw
                have hvz := hpv
                clear Hgood Hbad Hwv Hn2 hf hpr hw hpv
                generalize valZ 1 p q = vz at *
                clear hno
                go_wp2_with fail
                go_quiet (fail)
                go_wp2_with fail
                have B8 := Lib.hid (belowN B1.out nq)
                have y8 := (cellN _ nq).trans y0
                have O8 := Lib.hid (O1.out.heap (w' := World.drewN _ nq) (heapN _ nq))
                generalize World.drewN _ nq = w8 at *
                have P8 := Lib.hid (HO.out w8 (by have h := O8.out; rw [hm] at h; exact h))
                have hmc : (m : Int) ≤ (cc : Int) := by omega
                have hc0 : ¬ (cc = 0) := by omega
                have hwm : IntKind.i64.wrap (m : Int) = (m : Int) := IntWalk.i64_in _ (by omega)
                have hgl := (Hvl.out g2 rfl).2
                have hb8 := B8.out.size
                have htl : (st.take m).length = m := by rw [List.length_take]; omega
                go_region_held3 (fun w' => w'.cell? ⟨wo.heap.size, 0, none⟩ = some (.int .i64 4)) (first | assumption | go_keep) (first | (go_at_call 75; refine (Hdv.out _).mono ?_; rintro e w9 ⟨rfl, rfl⟩) | (refine Eq.mpr (if_pos (by rfl)) ?_; refine wp_pushI _ _ rfl w.heap.size _ _ (st.take m) rfl _ (((P8.out).alloc _).drew1) vz rfl (box_drew1 (Box.new' _ _ _ rfl)) (by first | omega | (simp; done) | (simp; omega)) (by first | omega | (simp; done) | (simp; omega)) ?_; intro v' w4 hown4 hg4 hlt4; have HOwn := Lib.hid hown4; have hk4 := hg4.cell (a := ⟨wo.heap.size, 0, none⟩) (cell_drew1 _ y8) (by intro he; injection he with he; exact Nat.ne_of_gt hgl he); have B9 := Lib.hid ((belowD (B8.out.alloc hb8 _)).grown hg4 (by first | omega | (simp; done) | (simp; omega)) (fun k hk => (hlt4 k hk).1)); obtain ⟨g3, c3, rfl, hc3, hg3, hd3⟩ := OwnIs.top hown4 htl; clear hown4 hg4 hlt4))
                go_wp2_with (go_at_call 74; refine (sWholeAs hwv).mono ?_; rintro e w' ⟨rfl, rfl⟩)
                go_ret2
                exact ⟨⟨_, _, rfl, HX.out.symm⟩, B9.out⟩
            · have hq1 : (q == 0) = false := beq_eq_false_iff_ne.2 hq
              clear hq
              have hno : ¬ (3 ≤ 1 ∧ q = 0) := by omega
              have Hdv := Lib.hid (fun W => sl5Do 1 (by omega) p q W Wx.out Wy.out (fun h => absurd h (by omega)))
              by_cases hw : wholeP (valZ 1 p q)
              · have hpr : pairR 1 p q = .good (valZ 1 p q) := by unfold pairR; rw [if_neg hno, if_pos hw]
                have HG := Lib.hid (show runV ks (xs.take (k + 1)) = .run (st.take m ++ [(valZ 1 p q)]) by have h := Hgood.out _ (Hdo.out.trans hpr); rwa [show st.length - ActD.takesN _ = m from by rw [hm]; rfl] at h)
                have HW := Lib.hid (show ∀ y ∈ st.take m ++ [(valZ 1 p q)], wholeP y by exact stack_whole m Hwh.out (Hwv.out _ (Hdo.out.trans hpr)))
                have hwv := decide_eq_true (Hwv.out _ (Hdo.out.trans hpr))
                have HB := Lib.hid (show Bal (xs.take (k + 1)) ((st.take m ++ [(valZ 1 p q)]).length : Int) by have h := Hn2.out; rwa [show ((st.length : Int) + (1 - ActD.takes _)) = ((st.take m ++ [(valZ 1 p q)]).length : Int) from by simp only [ActD.takes, List.length_append, List.length_singleton, List.length_take]; omega] at h)
                have hvz := hpv
                clear Hgood Hbad Hwv Hn2 hf hpr hw hpv
                generalize valZ 1 p q = vz at *
                clear hno
                go_wp2_with fail
                go_quiet (fail)
                go_wp2_with fail
                have B8 := Lib.hid (belowN B1.out nq)
                have y8 := (cellN _ nq).trans y0
                have O8 := Lib.hid (O1.out.heap (w' := World.drewN _ nq) (heapN _ nq))
                generalize World.drewN _ nq = w8 at *
                have P8 := Lib.hid (HO.out w8 (by have h := O8.out; rw [hm] at h; exact h))
                have hmc : (m : Int) ≤ (cc : Int) := by omega
                have hc0 : ¬ (cc = 0) := by omega
                have hwm : IntKind.i64.wrap (m : Int) = (m : Int) := IntWalk.i64_in _ (by omega)
                have hgl := (Hvl.out g2 rfl).2
                have hb8 := B8.out.size
                have htl : (st.take m).length = m := by rw [List.length_take]; omega
                go_region_held3 (fun w' => w'.cell? ⟨wo.heap.size, 0, none⟩ = some (.int .i64 4)) (first | assumption | go_keep) (first | (go_at_call 75; refine (Hdv.out _).mono ?_; rintro e w9 ⟨rfl, rfl⟩) | (refine Eq.mpr (if_pos (by rfl)) ?_; refine wp_pushI _ _ rfl w.heap.size _ _ (st.take m) rfl _ (((P8.out).alloc _).drew1) vz rfl (box_drew1 (Box.new' _ _ _ rfl)) (by first | omega | (simp; done) | (simp; omega)) (by first | omega | (simp; done) | (simp; omega)) ?_; intro v' w4 hown4 hg4 hlt4; have HOwn := Lib.hid hown4; have hk4 := hg4.cell (a := ⟨wo.heap.size, 0, none⟩) (cell_drew1 _ y8) (by intro he; injection he with he; exact Nat.ne_of_gt hgl he); have B9 := Lib.hid ((belowD (B8.out.alloc hb8 _)).grown hg4 (by first | omega | (simp; done) | (simp; omega)) (fun k hk => (hlt4 k hk).1)); obtain ⟨g3, c3, rfl, hc3, hg3, hd3⟩ := OwnIs.top hown4 htl; clear hown4 hg4 hlt4))
                go_wp2_with (go_at_call 74; refine (sWholeAs hwv).mono ?_; rintro e w' ⟨rfl, rfl⟩)
                exact ⟨⟨k + 1, st.take m ++ [vz], by congr 1, by omega, HG.out, HB.out, HW.out, by first | (simp; done) | (simp; omega), HOwn.out, B9.out⟩, by simp [intOf]; omega⟩
              · have hpr : pairR 1 p q = .bad 3 := by unfold pairR; rw [if_neg hno, if_neg hw]
                have HX := Lib.hid (Hbad.out _ (Hdo.out.trans hpr))
                have hwv := decide_eq_false hw
                have hvz := hpv
                clear Hgood Hbad Hwv Hn2 hf hpr hw hpv
                generalize valZ 1 p q = vz at *
                clear hno
                go_wp2_with fail
                go_quiet (fail)
                go_wp2_with fail
                have B8 := Lib.hid (belowN B1.out nq)
                have y8 := (cellN _ nq).trans y0
                have O8 := Lib.hid (O1.out.heap (w' := World.drewN _ nq) (heapN _ nq))
                generalize World.drewN _ nq = w8 at *
                have P8 := Lib.hid (HO.out w8 (by have h := O8.out; rw [hm] at h; exact h))
                have hmc : (m : Int) ≤ (cc : Int) := by omega
                have hc0 : ¬ (cc = 0) := by omega
                have hwm : IntKind.i64.wrap (m : Int) = (m : Int) := IntWalk.i64_in _ (by omega)
                have hgl := (Hvl.out g2 rfl).2
                have hb8 := B8.out.size
                have htl : (st.take m).length = m := by rw [List.length_take]; omega
                go_region_held3 (fun w' => w'.cell? ⟨wo.heap.size, 0, none⟩ = some (.int .i64 4)) (first | assumption | go_keep) (first | (go_at_call 75; refine (Hdv.out _).mono ?_; rintro e w9 ⟨rfl, rfl⟩) | (refine Eq.mpr (if_pos (by rfl)) ?_; refine wp_pushI _ _ rfl w.heap.size _ _ (st.take m) rfl _ (((P8.out).alloc _).drew1) vz rfl (box_drew1 (Box.new' _ _ _ rfl)) (by first | omega | (simp; done) | (simp; omega)) (by first | omega | (simp; done) | (simp; omega)) ?_; intro v' w4 hown4 hg4 hlt4; have HOwn := Lib.hid hown4; have hk4 := hg4.cell (a := ⟨wo.heap.size, 0, none⟩) (cell_drew1 _ y8) (by intro he; injection he with he; exact Nat.ne_of_gt hgl he); have B9 := Lib.hid ((belowD (B8.out.alloc hb8 _)).grown hg4 (by first | omega | (simp; done) | (simp; omega)) (fun k hk => (hlt4 k hk).1)); obtain ⟨g3, c3, rfl, hc3, hg3, hd3⟩ := OwnIs.top hown4 htl; clear hown4 hg4 hlt4))
                go_wp2_with (go_at_call 74; refine (sWholeAs hwv).mono ?_; rintro e w' ⟨rfl, rfl⟩)
                go_ret2
                exact ⟨⟨_, _, rfl, HX.out.symm⟩, B9.out⟩
          | 2, _ =>
            have h1 : kd = 5 := H1.out
            clear H1
            subst h1
            have hb5 := B1.out.size
            by_cases hq : q = 0
            · have hq1 : (q == 0) = true := beq_iff_eq.2 hq
              clear hq
              have hno : ¬ (3 ≤ 2 ∧ q = 0) := by omega
              have Hdv := Lib.hid (fun W => sl5Do 2 (by omega) p q W Wx.out Wy.out (fun h => absurd h (by omega)))
              by_cases hw : wholeP (valZ 2 p q)
              · have hpr : pairR 2 p q = .good (valZ 2 p q) := by unfold pairR; rw [if_neg hno, if_pos hw]
                have HG := Lib.hid (show runV ks (xs.take (k + 1)) = .run (st.take m ++ [(valZ 2 p q)]) by have h := Hgood.out _ (Hdo.out.trans hpr); rwa [show st.length - ActD.takesN _ = m from by rw [hm]; rfl] at h)
                have HW := Lib.hid (show ∀ y ∈ st.take m ++ [(valZ 2 p q)], wholeP y by exact stack_whole m Hwh.out (Hwv.out _ (Hdo.out.trans hpr)))
                have hwv := decide_eq_true (Hwv.out _ (Hdo.out.trans hpr))
                have HB := Lib.hid (show Bal (xs.take (k + 1)) ((st.take m ++ [(valZ 2 p q)]).length : Int) by have h := Hn2.out; rwa [show ((st.length : Int) + (1 - ActD.takes _)) = ((st.take m ++ [(valZ 2 p q)]).length : Int) from by simp only [ActD.takes, List.length_append, List.length_singleton, List.length_take]; omega] at h)
                have hvz := hpv
                clear Hgood Hbad Hwv Hn2 hf hpr hw hpv
                generalize valZ 2 p q = vz at *
                clear hno
                go_wp2_with fail
                go_quiet (fail)
                go_wp2_with fail
                have B8 := Lib.hid (belowN B1.out nq)
                have y8 := (cellN _ nq).trans y0
                have O8 := Lib.hid (O1.out.heap (w' := World.drewN _ nq) (heapN _ nq))
                generalize World.drewN _ nq = w8 at *
                have P8 := Lib.hid (HO.out w8 (by have h := O8.out; rw [hm] at h; exact h))
                have hmc : (m : Int) ≤ (cc : Int) := by omega
                have hc0 : ¬ (cc = 0) := by omega
                have hwm : IntKind.i64.wrap (m : Int) = (m : Int) := IntWalk.i64_in _ (by omega)
                have hgl := (Hvl.out g2 rfl).2
                have hb8 := B8.out.size
                have htl : (st.take m).length = m := by rw [List.length_take]; omega
                go_region_held3 (fun w' => w'.cell? ⟨wo.heap.size, 0, none⟩ = some (.int .i64 5)) (first | assumption | go_keep) (first | (go_at_call 75; refine (Hdv.out _).mono ?_; rintro e w9 ⟨rfl, rfl⟩) | (refine Eq.mpr (if_pos (by rfl)) ?_; refine wp_pushI _ _ rfl w.heap.size _ _ (st.take m) rfl _ (((P8.out).alloc _).drew1) vz rfl (box_drew1 (Box.new' _ _ _ rfl)) (by first | omega | (simp; done) | (simp; omega)) (by first | omega | (simp; done) | (simp; omega)) ?_; intro v' w4 hown4 hg4 hlt4; have HOwn := Lib.hid hown4; have hk4 := hg4.cell (a := ⟨wo.heap.size, 0, none⟩) (cell_drew1 _ y8) (by intro he; injection he with he; exact Nat.ne_of_gt hgl he); have B9 := Lib.hid ((belowD (B8.out.alloc hb8 _)).grown hg4 (by first | omega | (simp; done) | (simp; omega)) (fun k hk => (hlt4 k hk).1)); obtain ⟨g3, c3, rfl, hc3, hg3, hd3⟩ := OwnIs.top hown4 htl; clear hown4 hg4 hlt4))
                go_wp2_with (go_at_call 74; refine (sWholeAs hwv).mono ?_; rintro e w' ⟨rfl, rfl⟩)
                exact ⟨⟨k + 1, st.take m ++ [vz], by congr 1, by omega, HG.out, HB.out, HW.out, by first | (simp; done) | (simp; omega), HOwn.out, B9.out⟩, by simp [intOf]; omega⟩
              · have hpr : pairR 2 p q = .bad 3 := by unfold pairR; rw [if_neg hno, if_neg hw]
                have HX := Lib.hid (Hbad.out _ (Hdo.out.trans hpr))
                have hwv := decide_eq_false hw
                have hvz := hpv
                clear Hgood Hbad Hwv Hn2 hf hpr hw hpv
                generalize valZ 2 p q = vz at *
                clear hno
                go_wp2_with fail
                go_quiet (fail)
                go_wp2_with fail
                have B8 := Lib.hid (belowN B1.out nq)
                have y8 := (cellN _ nq).trans y0
                have O8 := Lib.hid (O1.out.heap (w' := World.drewN _ nq) (heapN _ nq))
                generalize World.drewN _ nq = w8 at *
                have P8 := Lib.hid (HO.out w8 (by have h := O8.out; rw [hm] at h; exact h))
                have hmc : (m : Int) ≤ (cc : Int) := by omega
                have hc0 : ¬ (cc = 0) := by omega
                have hwm : IntKind.i64.wrap (m : Int) = (m : Int) := IntWalk.i64_in _ (by omega)
                have hgl := (Hvl.out g2 rfl).2
                have hb8 := B8.out.size
                have htl : (st.take m).length = m := by rw [List.length_take]; omega
                go_region_held3 (fun w' => w'.cell? ⟨wo.heap.size, 0, none⟩ = some (.int .i64 5)) (first | assumption | go_keep) (first | (go_at_call 75; refine (Hdv.out _).mono ?_; rintro e w9 ⟨rfl, rfl⟩) | (refine Eq.mpr (if_pos (by rfl)) ?_; refine wp_pushI _ _ rfl w.heap.size _ _ (st.take m) rfl _ (((P8.out).alloc _).drew1) vz rfl (box_drew1 (Box.new' _ _ _ rfl)) (by first | omega | (simp; done) | (simp; omega)) (by first | omega | (simp; done) | (simp; omega)) ?_; intro v' w4 hown4 hg4 hlt4; have HOwn := Lib.hid hown4; have hk4 := hg4.cell (a := ⟨wo.heap.size, 0, none⟩) (cell_drew1 _ y8) (by intro he; injection he with he; exact Nat.ne_of_gt hgl he); have B9 := Lib.hid ((belowD (B8.out.alloc hb8 _)).grown hg4 (by first | omega | (simp; done) | (simp; omega)) (fun k hk => (hlt4 k hk).1)); obtain ⟨g3, c3, rfl, hc3, hg3, hd3⟩ := OwnIs.top hown4 htl; clear hown4 hg4 hlt4))
                go_wp2_with (go_at_call 74; refine (sWholeAs hwv).mono ?_; rintro e w' ⟨rfl, rfl⟩)
                go_ret2
                exact ⟨⟨_, _, rfl, HX.out.symm⟩, B9.out⟩
            · have hq1 : (q == 0) = false := beq_eq_false_iff_ne.2 hq
              clear hq
              have hno : ¬ (3 ≤ 2 ∧ q = 0) := by omega
              have Hdv := Lib.hid (fun W => sl5Do 2 (by omega) p q W Wx.out Wy.out (fun h => absurd h (by omega)))
              by_cases hw : wholeP (valZ 2 p q)
              · have hpr : pairR 2 p q = .good (valZ 2 p q) := by unfold pairR; rw [if_neg hno, if_pos hw]
                have HG := Lib.hid (show runV ks (xs.take (k + 1)) = .run (st.take m ++ [(valZ 2 p q)]) by have h := Hgood.out _ (Hdo.out.trans hpr); rwa [show st.length - ActD.takesN _ = m from by rw [hm]; rfl] at h)
                have HW := Lib.hid (show ∀ y ∈ st.take m ++ [(valZ 2 p q)], wholeP y by exact stack_whole m Hwh.out (Hwv.out _ (Hdo.out.trans hpr)))
                have hwv := decide_eq_true (Hwv.out _ (Hdo.out.trans hpr))
                have HB := Lib.hid (show Bal (xs.take (k + 1)) ((st.take m ++ [(valZ 2 p q)]).length : Int) by have h := Hn2.out; rwa [show ((st.length : Int) + (1 - ActD.takes _)) = ((st.take m ++ [(valZ 2 p q)]).length : Int) from by simp only [ActD.takes, List.length_append, List.length_singleton, List.length_take]; omega] at h)
                have hvz := hpv
                clear Hgood Hbad Hwv Hn2 hf hpr hw hpv
                generalize valZ 2 p q = vz at *
                clear hno
                go_wp2_with fail
                go_quiet (fail)
                go_wp2_with fail
                have B8 := Lib.hid (belowN B1.out nq)
                have y8 := (cellN _ nq).trans y0
                have O8 := Lib.hid (O1.out.heap (w' := World.drewN _ nq) (heapN _ nq))
                generalize World.drewN _ nq = w8 at *
                have P8 := Lib.hid (HO.out w8 (by have h := O8.out; rw [hm] at h; exact h))
                have hmc : (m : Int) ≤ (cc : Int) := by omega
                have hc0 : ¬ (cc = 0) := by omega
                have hwm : IntKind.i64.wrap (m : Int) = (m : Int) := IntWalk.i64_in _ (by omega)
                have hgl := (Hvl.out g2 rfl).2
                have hb8 := B8.out.size
                have htl : (st.take m).length = m := by rw [List.length_take]; omega
                go_region_held3 (fun w' => w'.cell? ⟨wo.heap.size, 0, none⟩ = some (.int .i64 5)) (first | assumption | go_keep) (first | (go_at_call 75; refine (Hdv.out _).mono ?_; rintro e w9 ⟨rfl, rfl⟩) | (refine Eq.mpr (if_pos (by rfl)) ?_; refine wp_pushI _ _ rfl w.heap.size _ _ (st.take m) rfl _ (((P8.out).alloc _).drew1) vz rfl (box_drew1 (Box.new' _ _ _ rfl)) (by first | omega | (simp; done) | (simp; omega)) (by first | omega | (simp; done) | (simp; omega)) ?_; intro v' w4 hown4 hg4 hlt4; have HOwn := Lib.hid hown4; have hk4 := hg4.cell (a := ⟨wo.heap.size, 0, none⟩) (cell_drew1 _ y8) (by intro he; injection he with he; exact Nat.ne_of_gt hgl he); have B9 := Lib.hid ((belowD (B8.out.alloc hb8 _)).grown hg4 (by first | omega | (simp; done) | (simp; omega)) (fun k hk => (hlt4 k hk).1)); obtain ⟨g3, c3, rfl, hc3, hg3, hd3⟩ := OwnIs.top hown4 htl; clear hown4 hg4 hlt4))
                go_wp2_with (go_at_call 74; refine (sWholeAs hwv).mono ?_; rintro e w' ⟨rfl, rfl⟩)
                exact ⟨⟨k + 1, st.take m ++ [vz], by congr 1, by omega, HG.out, HB.out, HW.out, by first | (simp; done) | (simp; omega), HOwn.out, B9.out⟩, by simp [intOf]; omega⟩
              · have hpr : pairR 2 p q = .bad 3 := by unfold pairR; rw [if_neg hno, if_neg hw]
                have HX := Lib.hid (Hbad.out _ (Hdo.out.trans hpr))
                have hwv := decide_eq_false hw
                have hvz := hpv
                clear Hgood Hbad Hwv Hn2 hf hpr hw hpv
                generalize valZ 2 p q = vz at *
                clear hno
                go_wp2_with fail
                go_quiet (fail)
                go_wp2_with fail
                have B8 := Lib.hid (belowN B1.out nq)
                have y8 := (cellN _ nq).trans y0
                have O8 := Lib.hid (O1.out.heap (w' := World.drewN _ nq) (heapN _ nq))
                generalize World.drewN _ nq = w8 at *
                have P8 := Lib.hid (HO.out w8 (by have h := O8.out; rw [hm] at h; exact h))
                have hmc : (m : Int) ≤ (cc : Int) := by omega
                have hc0 : ¬ (cc = 0) := by omega
                have hwm : IntKind.i64.wrap (m : Int) = (m : Int) := IntWalk.i64_in _ (by omega)
                have hgl := (Hvl.out g2 rfl).2
                have hb8 := B8.out.size
                have htl : (st.take m).length = m := by rw [List.length_take]; omega
                go_region_held3 (fun w' => w'.cell? ⟨wo.heap.size, 0, none⟩ = some (.int .i64 5)) (first | assumption | go_keep) (first | (go_at_call 75; refine (Hdv.out _).mono ?_; rintro e w9 ⟨rfl, rfl⟩) | (refine Eq.mpr (if_pos (by rfl)) ?_; refine wp_pushI _ _ rfl w.heap.size _ _ (st.take m) rfl _ (((P8.out).alloc _).drew1) vz rfl (box_drew1 (Box.new' _ _ _ rfl)) (by first | omega | (simp; done) | (simp; omega)) (by first | omega | (simp; done) | (simp; omega)) ?_; intro v' w4 hown4 hg4 hlt4; have HOwn := Lib.hid hown4; have hk4 := hg4.cell (a := ⟨wo.heap.size, 0, none⟩) (cell_drew1 _ y8) (by intro he; injection he with he; exact Nat.ne_of_gt hgl he); have B9 := Lib.hid ((belowD (B8.out.alloc hb8 _)).grown hg4 (by first | omega | (simp; done) | (simp; omega)) (fun k hk => (hlt4 k hk).1)); obtain ⟨g3, c3, rfl, hc3, hg3, hd3⟩ := OwnIs.top hown4 htl; clear hown4 hg4 hlt4))
                go_wp2_with (go_at_call 74; refine (sWholeAs hwv).mono ?_; rintro e w' ⟨rfl, rfl⟩)
                go_ret2
                exact ⟨⟨_, _, rfl, HX.out.symm⟩, B9.out⟩
          | 3, _ =>
            have h1 : kd = 6 := H1.out
            clear H1
            subst h1
            have hb5 := B1.out.size
            by_cases hq : q = 0
            · have HX := Lib.hid (Hbad.out 2 (Hdo.out.trans (if_pos ⟨by omega, hq⟩)))
              have hq1 : (q == 0) = true := beq_iff_eq.2 hq
              have Hq := Lib.hid hq
              clear Hgood Hbad Hwv Hn2 hf hq
              go_wp2_with fail
              go_quiet (fail)
              go_wp2_with fail
              go_ret2
              exact ⟨⟨_, _, rfl, HX.out.symm⟩, belowN B1.out nq⟩
            · have hq1 : (q == 0) = false := beq_eq_false_iff_ne.2 hq
              have hno : ¬ (3 ≤ 3 ∧ q = 0) := fun h => hq h.2
              have Hdv := Lib.hid (fun W => sl5Do 3 (by omega) p q W Wx.out Wy.out (fun _ => hq))
              by_cases hw : wholeP (valZ 3 p q)
              · have hpr : pairR 3 p q = .good (valZ 3 p q) := by unfold pairR; rw [if_neg hno, if_pos hw]
                have HG := Lib.hid (show runV ks (xs.take (k + 1)) = .run (st.take m ++ [(valZ 3 p q)]) by have h := Hgood.out _ (Hdo.out.trans hpr); rwa [show st.length - ActD.takesN _ = m from by rw [hm]; rfl] at h)
                have HW := Lib.hid (show ∀ y ∈ st.take m ++ [(valZ 3 p q)], wholeP y by exact stack_whole m Hwh.out (Hwv.out _ (Hdo.out.trans hpr)))
                have hwv := decide_eq_true (Hwv.out _ (Hdo.out.trans hpr))
                have HB := Lib.hid (show Bal (xs.take (k + 1)) ((st.take m ++ [(valZ 3 p q)]).length : Int) by have h := Hn2.out; rwa [show ((st.length : Int) + (1 - ActD.takes _)) = ((st.take m ++ [(valZ 3 p q)]).length : Int) from by simp only [ActD.takes, List.length_append, List.length_singleton, List.length_take]; omega] at h)
                have hvz := hpv
                clear Hgood Hbad Hwv Hn2 hf hpr hw hpv hq
                generalize valZ 3 p q = vz at *
                clear hno
                go_wp2_with fail
                go_quiet (fail)
                go_wp2_with fail
                have B8 := Lib.hid (belowN B1.out nq)
                have y8 := (cellN _ nq).trans y0
                have O8 := Lib.hid (O1.out.heap (w' := World.drewN _ nq) (heapN _ nq))
                generalize World.drewN _ nq = w8 at *
                have P8 := Lib.hid (HO.out w8 (by have h := O8.out; rw [hm] at h; exact h))
                have hmc : (m : Int) ≤ (cc : Int) := by omega
                have hc0 : ¬ (cc = 0) := by omega
                have hwm : IntKind.i64.wrap (m : Int) = (m : Int) := IntWalk.i64_in _ (by omega)
                have hgl := (Hvl.out g2 rfl).2
                have hb8 := B8.out.size
                have htl : (st.take m).length = m := by rw [List.length_take]; omega
                go_region_held3 (fun w' => w'.cell? ⟨wo.heap.size, 0, none⟩ = some (.int .i64 6)) (first | assumption | go_keep) (first | (go_at_call 75; refine (Hdv.out _).mono ?_; rintro e w9 ⟨rfl, rfl⟩) | (refine Eq.mpr (if_pos (by rfl)) ?_; refine wp_pushI _ _ rfl w.heap.size _ _ (st.take m) rfl _ (((P8.out).alloc _).drew1) vz rfl (box_drew1 (Box.new' _ _ _ rfl)) (by first | omega | (simp; done) | (simp; omega)) (by first | omega | (simp; done) | (simp; omega)) ?_; intro v' w4 hown4 hg4 hlt4; have HOwn := Lib.hid hown4; have hk4 := hg4.cell (a := ⟨wo.heap.size, 0, none⟩) (cell_drew1 _ y8) (by intro he; injection he with he; exact Nat.ne_of_gt hgl he); have B9 := Lib.hid ((belowD (B8.out.alloc hb8 _)).grown hg4 (by first | omega | (simp; done) | (simp; omega)) (fun k hk => (hlt4 k hk).1)); obtain ⟨g3, c3, rfl, hc3, hg3, hd3⟩ := OwnIs.top hown4 htl; clear hown4 hg4 hlt4))
                go_wp2_with (go_at_call 74; refine (sWholeAs hwv).mono ?_; rintro e w' ⟨rfl, rfl⟩)
                exact ⟨⟨k + 1, st.take m ++ [vz], by congr 1, by omega, HG.out, HB.out, HW.out, by first | (simp; done) | (simp; omega), HOwn.out, B9.out⟩, by simp [intOf]; omega⟩
              · have hpr : pairR 3 p q = .bad 3 := by unfold pairR; rw [if_neg hno, if_neg hw]
                have HX := Lib.hid (Hbad.out _ (Hdo.out.trans hpr))
                have hwv := decide_eq_false hw
                have hvz := hpv
                clear Hgood Hbad Hwv Hn2 hf hpr hw hpv hq
                generalize valZ 3 p q = vz at *
                clear hno
                go_wp2_with fail
                go_quiet (fail)
                go_wp2_with fail
                have B8 := Lib.hid (belowN B1.out nq)
                have y8 := (cellN _ nq).trans y0
                have O8 := Lib.hid (O1.out.heap (w' := World.drewN _ nq) (heapN _ nq))
                generalize World.drewN _ nq = w8 at *
                have P8 := Lib.hid (HO.out w8 (by have h := O8.out; rw [hm] at h; exact h))
                have hmc : (m : Int) ≤ (cc : Int) := by omega
                have hc0 : ¬ (cc = 0) := by omega
                have hwm : IntKind.i64.wrap (m : Int) = (m : Int) := IntWalk.i64_in _ (by omega)
                have hgl := (Hvl.out g2 rfl).2
                have hb8 := B8.out.size
                have htl : (st.take m).length = m := by rw [List.length_take]; omega
                go_region_held3 (fun w' => w'.cell? ⟨wo.heap.size, 0, none⟩ = some (.int .i64 6)) (first | assumption | go_keep) (first | (go_at_call 75; refine (Hdv.out _).mono ?_; rintro e w9 ⟨rfl, rfl⟩) | (refine Eq.mpr (if_pos (by rfl)) ?_; refine wp_pushI _ _ rfl w.heap.size _ _ (st.take m) rfl _ (((P8.out).alloc _).drew1) vz rfl (box_drew1 (Box.new' _ _ _ rfl)) (by first | omega | (simp; done) | (simp; omega)) (by first | omega | (simp; done) | (simp; omega)) ?_; intro v' w4 hown4 hg4 hlt4; have HOwn := Lib.hid hown4; have hk4 := hg4.cell (a := ⟨wo.heap.size, 0, none⟩) (cell_drew1 _ y8) (by intro he; injection he with he; exact Nat.ne_of_gt hgl he); have B9 := Lib.hid ((belowD (B8.out.alloc hb8 _)).grown hg4 (by first | omega | (simp; done) | (simp; omega)) (fun k hk => (hlt4 k hk).1)); obtain ⟨g3, c3, rfl, hc3, hg3, hd3⟩ := OwnIs.top hown4 htl; clear hown4 hg4 hlt4))
                go_wp2_with (go_at_call 74; refine (sWholeAs hwv).mono ?_; rintro e w' ⟨rfl, rfl⟩)
                go_ret2
                exact ⟨⟨_, _, rfl, HX.out.symm⟩, B9.out⟩
          | 4, _ =>
            have h1 : kd = 7 := H1.out
            clear H1
            subst h1
            have hb5 := B1.out.size
            by_cases hq : q = 0
            · have HX := Lib.hid (Hbad.out 2 (Hdo.out.trans (if_pos ⟨by omega, hq⟩)))
              have hq1 : (q == 0) = true := beq_iff_eq.2 hq
              have Hq := Lib.hid hq
              clear Hgood Hbad Hwv Hn2 hf hq
              go_wp2_with fail
              go_quiet (fail)
              go_wp2_with fail
              go_ret2
              exact ⟨⟨_, _, rfl, HX.out.symm⟩, belowN B1.out nq⟩
            · have hq1 : (q == 0) = false := beq_eq_false_iff_ne.2 hq
              have hno : ¬ (3 ≤ 4 ∧ q = 0) := fun h => hq h.2
              have Hdv := Lib.hid (fun W => sl5Do 4 (by omega) p q W Wx.out Wy.out (fun _ => hq))
              by_cases hw : wholeP (valZ 4 p q)
              · have hpr : pairR 4 p q = .good (valZ 4 p q) := by unfold pairR; rw [if_neg hno, if_pos hw]
                have HG := Lib.hid (show runV ks (xs.take (k + 1)) = .run (st.take m ++ [(valZ 4 p q)]) by have h := Hgood.out _ (Hdo.out.trans hpr); rwa [show st.length - ActD.takesN _ = m from by rw [hm]; rfl] at h)
                have HW := Lib.hid (show ∀ y ∈ st.take m ++ [(valZ 4 p q)], wholeP y by exact stack_whole m Hwh.out (Hwv.out _ (Hdo.out.trans hpr)))
                have hwv := decide_eq_true (Hwv.out _ (Hdo.out.trans hpr))
                have HB := Lib.hid (show Bal (xs.take (k + 1)) ((st.take m ++ [(valZ 4 p q)]).length : Int) by have h := Hn2.out; rwa [show ((st.length : Int) + (1 - ActD.takes _)) = ((st.take m ++ [(valZ 4 p q)]).length : Int) from by simp only [ActD.takes, List.length_append, List.length_singleton, List.length_take]; omega] at h)
                have hvz := hpv
                clear Hgood Hbad Hwv Hn2 hf hpr hw hpv hq
                generalize valZ 4 p q = vz at *
                clear hno
                go_wp2_with fail
                go_quiet (fail)
                go_wp2_with fail
                have B8 := Lib.hid (belowN B1.out nq)
                have y8 := (cellN _ nq).trans y0
                have O8 := Lib.hid (O1.out.heap (w' := World.drewN _ nq) (heapN _ nq))
                generalize World.drewN _ nq = w8 at *
                have P8 := Lib.hid (HO.out w8 (by have h := O8.out; rw [hm] at h; exact h))
                have hmc : (m : Int) ≤ (cc : Int) := by omega
                have hc0 : ¬ (cc = 0) := by omega
                have hwm : IntKind.i64.wrap (m : Int) = (m : Int) := IntWalk.i64_in _ (by omega)
                have hgl := (Hvl.out g2 rfl).2
                have hb8 := B8.out.size
                have htl : (st.take m).length = m := by rw [List.length_take]; omega
                go_region_held3 (fun w' => w'.cell? ⟨wo.heap.size, 0, none⟩ = some (.int .i64 7)) (first | assumption | go_keep) (first | (go_at_call 75; refine (Hdv.out _).mono ?_; rintro e w9 ⟨rfl, rfl⟩) | (refine Eq.mpr (if_pos (by rfl)) ?_; refine wp_pushI _ _ rfl w.heap.size _ _ (st.take m) rfl _ (((P8.out).alloc _).drew1) vz rfl (box_drew1 (Box.new' _ _ _ rfl)) (by first | omega | (simp; done) | (simp; omega)) (by first | omega | (simp; done) | (simp; omega)) ?_; intro v' w4 hown4 hg4 hlt4; have HOwn := Lib.hid hown4; have hk4 := hg4.cell (a := ⟨wo.heap.size, 0, none⟩) (cell_drew1 _ y8) (by intro he; injection he with he; exact Nat.ne_of_gt hgl he); have B9 := Lib.hid ((belowD (B8.out.alloc hb8 _)).grown hg4 (by first | omega | (simp; done) | (simp; omega)) (fun k hk => (hlt4 k hk).1)); obtain ⟨g3, c3, rfl, hc3, hg3, hd3⟩ := OwnIs.top hown4 htl; clear hown4 hg4 hlt4))
                go_wp2_with (go_at_call 74; refine (sWholeAs hwv).mono ?_; rintro e w' ⟨rfl, rfl⟩)
                exact ⟨⟨k + 1, st.take m ++ [vz], by congr 1, by omega, HG.out, HB.out, HW.out, by first | (simp; done) | (simp; omega), HOwn.out, B9.out⟩, by simp [intOf]; omega⟩
              · have hpr : pairR 4 p q = .bad 3 := by unfold pairR; rw [if_neg hno, if_neg hw]
                have HX := Lib.hid (Hbad.out _ (Hdo.out.trans hpr))
                have hwv := decide_eq_false hw
                have hvz := hpv
                clear Hgood Hbad Hwv Hn2 hf hpr hw hpv hq
                generalize valZ 4 p q = vz at *
                clear hno
                go_wp2_with fail
                go_quiet (fail)
                go_wp2_with fail
                have B8 := Lib.hid (belowN B1.out nq)
                have y8 := (cellN _ nq).trans y0
                have O8 := Lib.hid (O1.out.heap (w' := World.drewN _ nq) (heapN _ nq))
                generalize World.drewN _ nq = w8 at *
                have P8 := Lib.hid (HO.out w8 (by have h := O8.out; rw [hm] at h; exact h))
                have hmc : (m : Int) ≤ (cc : Int) := by omega
                have hc0 : ¬ (cc = 0) := by omega
                have hwm : IntKind.i64.wrap (m : Int) = (m : Int) := IntWalk.i64_in _ (by omega)
                have hgl := (Hvl.out g2 rfl).2
                have hb8 := B8.out.size
                have htl : (st.take m).length = m := by rw [List.length_take]; omega
                go_region_held3 (fun w' => w'.cell? ⟨wo.heap.size, 0, none⟩ = some (.int .i64 7)) (first | assumption | go_keep) (first | (go_at_call 75; refine (Hdv.out _).mono ?_; rintro e w9 ⟨rfl, rfl⟩) | (refine Eq.mpr (if_pos (by rfl)) ?_; refine wp_pushI _ _ rfl w.heap.size _ _ (st.take m) rfl _ (((P8.out).alloc _).drew1) vz rfl (box_drew1 (Box.new' _ _ _ rfl)) (by first | omega | (simp; done) | (simp; omega)) (by first | omega | (simp; done) | (simp; omega)) ?_; intro v' w4 hown4 hg4 hlt4; have HOwn := Lib.hid hown4; have hk4 := hg4.cell (a := ⟨wo.heap.size, 0, none⟩) (cell_drew1 _ y8) (by intro he; injection he with he; exact Nat.ne_of_gt hgl he); have B9 := Lib.hid ((belowD (B8.out.alloc hb8 _)).grown hg4 (by first | omega | (simp; done) | (simp; omega)) (fun k hk => (hlt4 k hk).1)); obtain ⟨g3, c3, rfl, hc3, hg3, hd3⟩ := OwnIs.top hown4 htl; clear hown4 hg4 hlt4))
                go_wp2_with (go_at_call 74; refine (sWholeAs hwv).mono ?_; rintro e w' ⟨rfl, rfl⟩)
                go_ret2
                exact ⟨⟨_, _, rfl, HX.out.symm⟩, B9.out⟩
          | n + 5, h => omega
    · obtain rfl : k = l.length := by omega
      have htk : xs.take l.length = xs := List.take_of_length_le (by have := Hlen.out; omega)
      have hone : st.length = 1 := by
        have h := Hb.out
        rw [htk] at h
        have := h.unique Hbal.out
        omega
      have HA := Lib.hid (show (st.getD 0 0, (0 : Int)) = ansV (runV ks xs) by have h := Hrun.out; rw [htk] at h; rw [h]; rfl)
      have Hbel := Lib.hid hbel
      clear htk
      rcases Hown.out.at with ⟨rfl, rfl⟩ | ⟨g2, cc, rfl, hcap, hmx, hB, hg2, cur, hbx, hcs, htk⟩
      · simp at hone
      · have c0 := (hbx.cell 0).trans (take_cell htk (k := 0) (by omega))
        clear hbel htk hcs hbx
        generalize st.getD 0 0 = p at *
        go_wp2_with fail
        go_ret2
        exact ⟨⟨_, _, rfl, HA.out⟩, Hbel.out⟩
end Go.Proofs.YteajdempddklgaaDoor
