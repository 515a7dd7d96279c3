
/-
  What is proved: what a client may have seen; contracts of the model's l9Good and of the program's GoodSeen. No condition beside what each theorem states.
-/
import Derived.Test.YtkhlekpkggglpaaStSeen
import Derived.Test.YtkhlekpkggglpaaName
import Derived.Test.YtkhlekpkggglpaaBMap
import Derived.Test.YtkhlekpkggglpaaSFields
namespace Go.Proofs.Ytkhlekpkggglpaa
open Go.ChangeShapes Go.WideShapes Go.ChangeAt Go.RowKit Go.Maps Go.WideMaps
set_option maxRecDepth 100000

def seenOk (t : SeenD) : Prop := nameP t.fMod ∧ nameP t.fName ∧ 0 ≤ t.fSum
def seenTo (l : List SeenD) (k : Nat) : Prop := (∀ i (hi : i < l.length), i < k → seenOk l[i]) ∧ ∀ i j (hi : i < l.length) (hj : j < l.length), i < j → j < k → ¬ (l[j].fMod = l[i].fMod ∧ l[j].fName = l[i].fName)
/-- What a client may have seen. -/
def seenP (l : List SeenD) : Prop := l.length ≤ 40 ∧ seenTo l l.length
open Classical in
noncomputable def seenB (l : List SeenD) : Bool := decide (seenP l)
theorem seenB_true {l : List SeenD} (h : seenP l) : seenB l = true := by unfold seenB; simpa using h
theorem seenB_false {l : List SeenD} (h : ¬ seenP l) : seenB l = false := by unfold seenB; simpa using h
theorem seen_bad {l : List SeenD} {k : Nat} (h : k < l.length) (hn : ¬ seenOk l[k]) : seenB l = false := seenB_false fun g => hn (g.2.1 k h h)
theorem seen_twice {l : List SeenD} {i k : Nat} (hik : i < k) (h : k < l.length) (hn : l[k].fMod = l[i].fMod ∧ l[k].fName = l[i].fName) : seenB l = false := seenB_false fun g => g.2.2 i k (by omega) h hik h hn
theorem seenTo_zero {l : List SeenD} : seenTo l 0 := ⟨fun _ _ h => absurd h (by omega), fun _ _ _ _ _ h => absurd h (by omega)⟩
theorem seenTo_next {l : List SeenD} {k : Nat} (hk : k < l.length) (h : seenTo l k) (h1 : seenOk l[k]) (h2 : ∀ i (hi : i < l.length), i < k → ¬ (l[k].fMod = l[i].fMod ∧ l[k].fName = l[i].fName)) : seenTo l (k + 1) :=
  ⟨fun i hi hik => by
    by_cases e : i = k
    · subst e; exact h1
    · exact h.1 i hi (by omega), fun i j hi hj hij hjk => by
    by_cases e : j = k
    · subst e; exact h2 i hi hij
    · exact h.2 i j hi hj hij (by omega)⟩

set_option maxHeartbeats 8000000 in
theorem sl9Good (a : Option Addr) (c : Nat) (l : List SeenD) (w : World) (hl : l.length ≤ 1048576) (hc : l.length ≤ c) (hc2 : c ≤ maxLen) (hs : ∀ t ∈ l, t.fMod.size ≤ maxLen ∧ t.fName.size ≤ maxLen) (hr : Rows seenS Any w a l) :
    Calls Try.prog 26 #[.slice a l.length c] w fun e w' => e = .returned (.bool (seenB l)) ∧ Below w.heap.size w w' := by
  have Hr := Lib.hid hr
  have Hs := Lib.hid hs
  clear hr hs
  unfold maxLen at hc2
  go_enter Try.func26, Try.ntmps26
  go_wp2_with fail
  go_loopw [9] (fun i wr => ∃ k : Nat, i = .int .i64 k ∧ k ≤ l.length ∧ seenTo l k ∧ Below w.heap.size w wr) (fun i _ => l.length - (intOf i).toNat)
  case atStart => exact ⟨0, rfl, by omega, seenTo_zero, Below.refl _ _⟩
  case round =>
    obtain ⟨k, rfl, hk, hto, hbel⟩ := hrel
    have Hto := Lib.hid hto
    clear hto
    obtain ⟨wo, hwo⟩ : ∃ x, x = wr := ⟨_, rfl⟩
    subst hwo
    by_cases hlt : k < l.length
    · obtain ⟨b, o, cs, rfl, _, hb1, hc1, hat⟩ := Hr.out k hlt
      obtain rfl : cs = [.string l[k].fMod, .string l[k].fName, .int .i64 l[k].fSum] := hat
      have hn : seenS.n = 3 := rfl
      have e0 := (hbel.cell (p := ⟨b, o + k * 3 + 0, none⟩) hb1).trans (hc1 0 (by decide))
      have e1 := (hbel.cell (p := ⟨b, o + k * 3 + 1, none⟩) hb1).trans (hc1 1 (by decide))
      have e2 := (hbel.cell (p := ⟨b, o + k * 3 + 2, none⟩) hb1).trans (hc1 2 (by decide))
      simp at e0 e1 e2
      have Hbel := Lib.hid hbel
      have Hbad := Lib.hid (seen_bad hlt)
      have Htw := Lib.hid (fun i (hik : i < k) => seen_twice hik hlt)
      have Hnx := Lib.hid (seenTo_next hlt Hto.out)
      have hsz := Hs.out l[k] (List.getElem_mem hlt)
      have hsz1 := hsz.1
      have hsz2 := hsz.2
      clear hbel hc1 hsz
      generalize l[k] = f at *
      by_cases n1 : nameP f.fMod
      · have q1 := nameB_true n1
        by_cases n2 : nameP f.fName
        · have q2 := nameB_true n2
          by_cases n3 : 0 ≤ f.fSum
          · have Hok := Lib.hid (show seenOk f from ⟨n1, n2, n3⟩)
            have n31 : ¬ f.fSum < 0 := by omega
            clear n1 n2
            go_wp2_with (go_at_call 27; refine (sl1Name _ _ (by first | exact hsz1 | exact hsz2)).mono ?_; rintro e w' ⟨rfl, rfl⟩)
            go_loopw [33] (fun i wr => ∃ q : Nat, i = .int .i64 q ∧ q ≤ k ∧ (∀ i (hi : i < l.length), i < q → ¬ (f.fMod = l[i].fMod ∧ f.fName = l[i].fName)) ∧ Below (wo.alloc (.cells #[.string f.fMod, .string f.fName, .int .i64 f.fSum] 54)).heap.size (wo.alloc (.cells #[.string f.fMod, .string f.fName, .int .i64 f.fSum] 54)) wr) (fun i _ => k - (intOf i).toNat)
            case atStart => exact ⟨0, rfl, by omega, fun _ _ h => absurd h (by omega), Below.refl _ _⟩
            case round =>
              obtain ⟨q, rfl, hqk, hno, hbj⟩ := hrel
              have Hno := Lib.hid hno
              have hB := (Box.new wo 54 #[.string f.fMod, .string f.fName, .int .i64 f.fSum]).below hbj (by simp)
              have y0 := hB.cell 0
              have y1 := hB.cell 1
              have l1 := hB.lt
              simp at y0 y1
              have Bj := Lib.hid ((Hbel.out.alloc Hbel.out.size (.cells #[.string f.fMod, .string f.fName, .int .i64 f.fSum] 54)).trans (hbj.mono (Hbel.out.alloc Hbel.out.size _).size))
              have Hbj := Lib.hid hbj
              clear hno hB hbj
              by_cases hqlt : q < k
              · have hql : q < l.length := by omega
                obtain ⟨b', o', cs', hbo, _, hb1', hc1', hat'⟩ := Hr.out q hql
                injection hbo with hbo
                injection hbo with hbo1 hbo2
                subst hbo1
                subst hbo2
                obtain rfl : cs' = [.string l[q].fMod, .string l[q].fName, .int .i64 l[q].fSum] := hat'
                have g0 := (Bj.out.cell (p := ⟨b, o + q * 3 + 0, none⟩) hb1).trans (hc1' 0 (by decide))
                have g1 := (Bj.out.cell (p := ⟨b, o + q * 3 + 1, none⟩) hb1).trans (hc1' 1 (by decide))
                have g2 := (Bj.out.cell (p := ⟨b, o + q * 3 + 2, none⟩) hb1).trans (hc1' 2 (by decide))
                simp at g0 g1 g2
                have Hsame := Lib.hid (fun (h : f.fMod = l[q].fMod ∧ f.fName = l[q].fName) => Htw.out q hqlt h)
                have Hno2 := Lib.hid (show ∀ (h : ¬ (f.fMod = l[q].fMod ∧ f.fName = l[q].fName)), ∀ i (hi : i < l.length), i < q + 1 → ¬ (f.fMod = l[i].fMod ∧ f.fName = l[i].fName) from fun h i hi hiq => by
                  by_cases e : i = q
                  · subst e; exact h
                  · exact Hno.out i hi (by omega))
                have l2 : wo.heap.size ≠ wr.heap.size := by omega
                clear hc1'
                generalize l[q] = g at *
                by_cases hsm : f.fMod = g.fMod
                · by_cases hsn : f.fName = g.fName
                  · have Hv := Lib.hid (Hsame.out ⟨hsm, hsn⟩)
                    have hb := bytes_same f.fMod g.fMod true (by simp [hsm])
                    have hb2 := bytes_same f.fName g.fName true (by simp [hsn])
                    clear hsm hsn
                    go_wp2_with fail
                    go_ret
                    exact ⟨by rw [Hv.out]; rfl, Bj.out.alloc Bj.out.size _⟩
                  · have Hn := Lib.hid (Hno2.out (fun h => hsn h.2))
                    have hb := bytes_same f.fMod g.fMod true (by simp [hsm])
                    have hb2 := bytes_same f.fName g.fName false (by simp [hsn])
                    clear hsm hsn
                    go_wp2_with fail
                    exact ⟨⟨q + 1, by congr 1, by omega, Hn.out, Hbj.out.alloc Hbj.out.size _⟩, by simp [intOf]; omega⟩
                · have Hn := Lib.hid (Hno2.out (fun h => hsm h.1))
                  have hb := bytes_same f.fMod g.fMod false (by simp [hsm])
                  clear hsm
                  go_wp2_with fail
                  exact ⟨⟨q + 1, by congr 1, by omega, Hn.out, Hbj.out.alloc Hbj.out.size _⟩, by simp [intOf]; omega⟩
              · obtain rfl : q = k := by omega
                have Hn := Lib.hid (Hnx.out Hok.out Hno.out)
                go_wp2_with fail
                exact ⟨⟨q + 1, by congr 1, by omega, Hn.out, Bj.out⟩, by simp [intOf]; omega⟩
          · have Hv := Lib.hid (Hbad.out (fun h => n3 h.2.2))
            have n31 : f.fSum < 0 := by omega
            clear n1 n2
            go_wp2_with (go_at_call 27; refine (sl1Name _ _ (by first | exact hsz1 | exact hsz2)).mono ?_; rintro e w' ⟨rfl, rfl⟩)
            go_ret
            exact ⟨by rw [Hv.out]; rfl, Hbel.out.alloc Hbel.out.size _⟩
        · have q2 := nameB_false n2
          have Hv := Lib.hid (Hbad.out (fun h => n2 h.2.1))
          clear n1 n2
          go_wp2_with (go_at_call 27; refine (sl1Name _ _ (by first | exact hsz1 | exact hsz2)).mono ?_; rintro e w' ⟨rfl, rfl⟩)
          go_ret
          exact ⟨by rw [Hv.out]; rfl, Hbel.out.alloc Hbel.out.size _⟩
      · have q1 := nameB_false n1
        have Hv := Lib.hid (Hbad.out (fun h => n1 h.1))
        clear n1
        go_wp2_with (go_at_call 27; refine (sl1Name _ _ hsz1).mono ?_; rintro e w' ⟨rfl, rfl⟩)
        go_ret
        exact ⟨by rw [Hv.out]; rfl, Hbel.out.alloc Hbel.out.size _⟩
    · obtain rfl : k = l.length := by omega
      have Hv := Lib.hid (show seenB l = decide ((l.length : Int) ≤ 40) from by
        by_cases h40 : l.length ≤ 40
        · rw [decide_eq_true (by omega)]
          exact seenB_true ⟨h40, Hto.out⟩
        · rw [decide_eq_false (by omega)]
          exact seenB_false (fun h => h40 h.1))
      have Hbel := Lib.hid hbel
      clear hbel
      go_wp2_with fail
      go_ret
      exact ⟨by rw [Hv.out]; rfl, Hbel.out⟩

/-! Maps that hold what was told. -/
theorem useKeyed : Keyed Try.prog 77 := Keyed.of_law (deep_law_laid laidOutP (m := 2) (by omega) (of_decide_eq_true (by kernel_rfl)) (by kernel_rfl) (by kernel_rfl))
theorem useKey {a b : ByteArray} (ha : a.size ≤ maxLen) (hb : b.size ≤ maxLen) : keyOf Try.prog 77 (.agg #[.string a, .string b]) = some (fullK a b) :=
  keyOf_two Try.underlying77 rfl rfl rfl rfl (by decide) (by decide) Try.underlying9 (by kernel_rfl) (by kernel_rfl) (by kernel_rfl) (of_decide_eq_true (by kernel_rfl)) ha hb
theorem useK_inj {a b a' b' : ByteArray} (ha : a.size ≤ maxLen) (hb : b.size ≤ maxLen) (ha' : a'.size ≤ maxLen) (hb' : b'.size ≤ maxLen) (h : fullK a b = fullK a' b') : a = a' ∧ b = b' := by
  have h1 := useKey ha hb
  have h2 := useKey ha' hb'
  rw [h] at h1
  have h3 := useKeyed.inj h1 h2
  simpa using h3
/-- Block b is a map of at most n entries that holds the keys of H. -/
def UMap (w : World) (b n : Nat) (H : Lit → Prop) : Prop :=
  ∃ D : DataW Unit, w.ownsMap Try.prog 77 (plainElem Try.prog 4) b n D ∧ IsMap D ∧ ∀ kl, KeysOf Try.prog 77 kl → (has D kl = true ↔ H kl)
theorem UMap.lt {w : World} {b n : Nat} {H : Lit → Prop} (h : UMap w b n H) : b < w.heap.size := by obtain ⟨D, h, _⟩ := h; exact h.lt
theorem UMap.made (w : World) : UMap (w.alloc (.map #[] 0)) w.heap.size 0 (fun _ => False) := ⟨.map [], World.ownsMap_made w Try.prog _ _, isMap_empty, fun _ _ => ⟨fun h => (by cases h), fun h => h.elim⟩⟩
theorem UMap.block {w w' : World} {b n : Nat} {H : Lit → Prop} (h : UMap w b n H) (hb : w'.heap[b]? = w.heap[b]?) : UMap w' b n H := by
  obtain ⟨D, ⟨es, clock, h1, h2⟩, h3⟩ := h
  exact ⟨D, ⟨es, clock, hb.trans h1, h2⟩, h3⟩
theorem UMap.below {w w' : World} {b n : Nat} {H : Lit → Prop} (h : UMap w b n H) (hb : Below w.heap.size w w') : UMap w' b n H := h.block (hb.block b h.lt)
theorem UMap.look {w : World} {b n : Nat} {H : Lit → Prop} (h : UMap w b n H) {t : TypeId} (ht : Try.prog.underlying t = some (.map 77 4)) {x y : ByteArray} (hx : x.size ≤ maxLen) (hy : y.size ≤ maxLen) :
    ∃ z q, (Instr.lookup t (.map (some b)) (.agg #[.string x, .string y]) true).run Try.prog w = .ok (.tuple #[.bool z, .bool q]) w ∧ (q = true ↔ H (fullK x y)) := by
  obtain ⟨D, h1, _, h3⟩ := h
  obtain ⟨v, ps, hrun, hv⟩ := h1.look_ok useKeyed ht (zeroBool w) (plainElem_bool Try.underlying4 false) (useKey hx hy)
  obtain ⟨z, rfl, _⟩ := plainElem_bool_inv Try.underlying4 hv
  exact ⟨z, _, hrun, h3 _ ⟨_, useKey hx hy⟩⟩
theorem UMap.put {w : World} {b n : Nat} {H : Lit → Prop} (h : UMap w b n H) {t : TypeId} (ht : Try.prog.underlying t = some (.map 77 4)) (hn : n < maxLen) {x y : ByteArray} (hx : x.size ≤ maxLen) (hy : y.size ≤ maxLen) (z : Bool) :
    ∃ w', (Instr.mapUpdate t (.map (some b)) (.agg #[.string x, .string y]) (.bool z)).run Try.prog w = .ok () w' ∧ UMap w' b (n + 1) (fun kl => kl = fullK x y ∨ H kl) ∧ w.grownBy w' (some b) := by
  obtain ⟨D, h1, h2, h3⟩ := h
  obtain ⟨w', hrun, r1, r2⟩ := h1.update useKeyed ht hn (useKey hx hy) (plainElem_bool Try.underlying4 z)
  have hk := useKeyed.key (useKey hx hy)
  refine ⟨w', hrun, ⟨_, r1, h2.put _ _, fun kl hkl => ?_⟩, r2⟩
  by_cases e : kl = fullK x y
  · subst e
    rw [has_put_same h2 hk]
    exact ⟨fun _ => .inl rfl, fun _ => rfl⟩
  · rw [has_put_other e, h3 kl hkl]
    exact ⟨.inr, fun h => h.resolve_left e⟩

def PutPost (b n : Nat) (H : Lit → Prop) (x y : ByteArray) (w : World) (e : Ending) (w' : World) : Prop := ∃ q, e = .returned (.bool q) ∧ (q = false ↔ H (fullK x y)) ∧ (q = true → UMap w' b (n + 1) (fun kl => kl = fullK x y ∨ H kl)) ∧ Only b w w'
set_option maxHeartbeats 4000000 in
theorem iPutUse (b n : Nat) (H : Lit → Prop) (x y : ByteArray) (w : World) (hx : x.size ≤ maxLen) (hy : y.size ≤ maxLen) (hn : n < maxLen) (hm : UMap w b n H) :
    Calls Try.prog 49 #[.map (some b), .agg #[.string x, .string y], .bool true] w fun e w' => PutPost b n H x y w e w' := by
  have X0 := Lib.hid (Box.new w 77 #[.string x, .string y])
  have M0 := Lib.hid (hm.below ((Below.refl _ _).alloc (Nat.le_refl _) (.cells #[.string x, .string y] 77)))
  have O0 := Lib.hid (Only.ofBelow (g := b) ((Below.refl w.heap.size w).alloc (Nat.le_refl _) (.cells #[.string x, .string y] 77)))
  have hbl := hm.lt
  obtain ⟨z, q, hlook, hq⟩ := M0.out.look Try.underlying73 hx hy
  obtain ⟨wp, hput, hmp, hgr⟩ := M0.out.put Try.underlying73 hn hx hy true
  have Hq := Lib.hid hq
  have Hmp := Lib.hid hmp
  have Ogr := Lib.hid (O0.out.trans ⟨hgr.os, hgr.tape, hgr.output, hgr.size, fun k hk hn => hgr.block k hk hn⟩)
  clear hm hq hmp hgr
  go_enter Try.func49, Try.ntmps49
  cases q
  · go_wp2_with fail
    go_ret
    exact ⟨true, rfl, ⟨fun h => (by cases h), fun h => (by have := Hq.out.2 h; cases this)⟩, fun _ => Hmp.out, Ogr.out⟩
  · go_wp2_with fail
    go_ret
    exact ⟨false, rfl, ⟨fun _ => by simpa using Hq.out, fun _ => rfl⟩, fun h => (by cases h), O0.out⟩

/-! The program's side. -/
open Classical in
noncomputable def seenOkB (t : SeenD) : Bool := decide (seenOk t)
theorem sizeUseS : (Try.prog.info? 77).map (·.size) = some 2 := by kernel_rfl
set_option maxHeartbeats 4000000 in
theorem iIsSeen (t : SeenD) (w : World) (h1 : t.fMod.size ≤ maxLen) (h2 : t.fName.size ≤ maxLen) :
    Calls Try.prog 48 #[.agg #[.string t.fMod, .string t.fName, .int .i64 t.fSum]] w fun e w' => e = .returned (.bool (seenOkB t)) ∧ Below w.heap.size w w' := by
  have BA := Lib.hid ((Below.refl w.heap.size w).alloc (Nat.le_refl _) (.cells #[.string t.fMod, .string t.fName, .int .i64 t.fSum] 54))
  have HV := Lib.hid (show ∀ q : Bool, (q = true ↔ seenOk t) → seenOkB t = q from fun q h => by
    unfold seenOkB
    cases q
    · simp only [decide_eq_false_iff_not]; exact fun g => by have := h.2 g; cases this
    · simp only [decide_eq_true_eq]; exact h.1 rfl)
  go_enter Try.func48, Try.ntmps48
  by_cases n1 : nameP t.fMod
  · have q1 := nameB_true n1
    by_cases n2 : nameP t.fName
    · have q2 := nameB_true n2
      by_cases n3 : 0 ≤ t.fSum
      · have hv := Lib.hid (HV.out true ⟨fun _ => ⟨n1, n2, n3⟩, fun _ => rfl⟩)
        have n31 : decide (0 ≤ t.fSum) = true := decide_eq_true n3
        clear n1 n2
        go_wp2_with (go_at_call 32; refine (iGoodName _ _ (by first | exact h1 | exact h2)).mono ?_; rintro e w' ⟨rfl, rfl⟩)
        go_ret
        exact ⟨by rw [hv.out]; rfl, BA.out⟩
      · have hv := Lib.hid (HV.out false ⟨fun h => (by cases h), fun h => absurd h.2.2 n3⟩)
        have n31 : decide (0 ≤ t.fSum) = false := decide_eq_false n3
        clear n1 n2
        go_wp2_with (go_at_call 32; refine (iGoodName _ _ (by first | exact h1 | exact h2)).mono ?_; rintro e w' ⟨rfl, rfl⟩)
        go_ret
        exact ⟨by rw [hv.out]; rfl, BA.out⟩
    · have q2 := nameB_false n2
      have hv := Lib.hid (HV.out false ⟨fun h => (by cases h), fun h => absurd h.2.1 n2⟩)
      clear n1 n2
      go_wp2_with (go_at_call 32; refine (iGoodName _ _ (by first | exact h1 | exact h2)).mono ?_; rintro e w' ⟨rfl, rfl⟩)
      go_ret
      exact ⟨by rw [hv.out]; rfl, BA.out⟩
  · have q1 := nameB_false n1
    have hv := Lib.hid (HV.out false ⟨fun h => (by cases h), fun h => absurd h.1 n1⟩)
    clear n1
    go_wp2_with (go_at_call 32; refine (iGoodName _ _ h1).mono ?_; rintro e w' ⟨rfl, rfl⟩)
    go_ret
    exact ⟨by rw [hv.out]; rfl, BA.out⟩
set_option maxHeartbeats 4000000 in
theorem iUseOf (t : SeenD) (w : World) :
    Calls Try.prog 50 #[.agg #[.string t.fMod, .string t.fName, .int .i64 t.fSum]] w fun e w' => e = .returned (.agg #[.string t.fMod, .string t.fName]) ∧ Below w.heap.size w w' := by
  go_enter Try.func50, Try.ntmps50
  go_wp2_with fail
  refine bodyPost_ret (results_one rfl Try.underlying77 rfl _ _ (w.heap.size + 1) #[.string t.fMod, .string t.fName] rfl 77 (Box.new' _ _ _ (by simp)) 2 sizeUseS rfl) rfl ?_
  exact ⟨rfl, ((Below.refl _ _).alloc (Nat.le_refl _) _).alloc (by simp) _⟩
/-- What the table holds behind k of them. -/
def heldS (l : List SeenD) (k : Nat) (H : Lit → Prop) : Prop := ∀ x y : ByteArray, x.size ≤ maxLen → y.size ≤ maxLen → (H (fullK x y) ↔ ∃ i, ∃ h : i < l.length, i < k ∧ l[i].fMod = x ∧ l[i].fName = y)
theorem heldS_zero {l : List SeenD} : heldS l 0 (fun _ => False) := fun _ _ _ _ => ⟨fun h => h.elim, fun ⟨_, _, h, _⟩ => absurd h (by omega)⟩
theorem heldS_next {l : List SeenD} {k : Nat} {H : Lit → Prop} (hk : k < l.length) (h1 : l[k].fMod.size ≤ maxLen) (h2 : l[k].fName.size ≤ maxLen) (h : heldS l k H) : heldS l (k + 1) (fun kl => kl = fullK l[k].fMod l[k].fName ∨ H kl) := fun x y hx hy => by
  show (fullK x y = fullK l[k].fMod l[k].fName ∨ H (fullK x y)) ↔ _
  rw [h x y hx hy]
  constructor
  · rintro (e | ⟨i, hi, hik, e⟩)
    · obtain ⟨rfl, rfl⟩ := useK_inj hx hy h1 h2 e
      exact ⟨k, hk, by omega, rfl, rfl⟩
    · exact ⟨i, hi, by omega, e⟩
  · rintro ⟨i, hi, hik, rfl, rfl⟩
    by_cases e : i = k
    · subst e; exact .inl rfl
    · exact .inr ⟨i, hi, by omega, rfl, rfl⟩

set_option maxHeartbeats 8000000 in
theorem iGoodSeen (a : Option Addr) (c : Nat) (l : List SeenD) (w : World) (hl : l.length ≤ 1048576) (hs : ∀ t ∈ l, t.fMod.size ≤ maxLen ∧ t.fName.size ≤ maxLen) (hr : Rows seenS Any w a l) :
    Calls Try.prog 31 #[.slice a l.length c] w fun e w' => e = .returned (.bool (seenB l)) ∧ Below w.heap.size w w' := by
  have Hr := Lib.hid hr
  have Hs := Lib.hid hs
  clear hr hs
  have hmm := @run_makeMap Try.prog
  go_enter Try.func31, Try.ntmps31
  by_cases h40 : 40 < l.length
  · have Hv := Lib.hid (seenB_false (l := l) (fun h => by have := h.1; omega))
    have h40' : (40 : Int) < (l.length : Int) := by omega
    go_wp2_with fail
    go_ret
    exact ⟨by rw [Hv.out]; rfl, Below.refl _ _⟩
  have h40' : ¬ (40 : Int) < (l.length : Int) := by omega
  go_wp2_with fail
  go_loopw [12] (fun i wr => ∃ (k : Nat) (H : Lit → Prop), i = .int .i64 k ∧ k ≤ l.length ∧ seenTo l k ∧ UMap wr w.heap.size k H ∧ heldS l k H ∧ Below w.heap.size w wr) (fun i _ => l.length - (intOf i).toNat)
  case atStart => exact ⟨0, _, rfl, by omega, seenTo_zero, UMap.made w, heldS_zero, (Below.refl _ _).alloc (Nat.le_refl _) _⟩
  case round =>
    clear hmm
    obtain ⟨k, H, rfl, hk, hto, hmap, htold, hbel⟩ := hrel
    have Hto := Lib.hid hto
    have Hmap := Lib.hid hmap
    have Htold := Lib.hid htold
    clear hto hmap htold
    by_cases hlt : k < l.length
    · obtain ⟨b, o, cs, rfl, _, hb1, hc1, hat⟩ := Hr.out k hlt
      obtain rfl : cs = [.string l[k].fMod, .string l[k].fName, .int .i64 l[k].fSum] := hat
      have hn : seenS.n = 3 := rfl
      have e0 := (hbel.cell (p := ⟨b, o + k * 3 + 0, none⟩) hb1).trans (hc1 0 (by decide))
      have e1 := (hbel.cell (p := ⟨b, o + k * 3 + 1, none⟩) hb1).trans (hc1 1 (by decide))
      have e2 := (hbel.cell (p := ⟨b, o + k * 3 + 2, none⟩) hb1).trans (hc1 2 (by decide))
      simp at e0 e1 e2
      have Hbel := Lib.hid hbel
      have hsr := hbel.size
      have Hbad := Lib.hid (seen_bad hlt)
      have Htw := Lib.hid (fun i (hik : i < k) => seen_twice hik hlt)
      have Hnx := Lib.hid (seenTo_next hlt Hto.out)
      have hsz := Hs.out l[k] (List.getElem_mem hlt)
      have hsz1 := hsz.1
      have hsz2 := hsz.2
      have Hput := Lib.hid (heldS_next hlt hsz1 hsz2 Htold.out)
      have Hd := Lib.hid (Htold.out l[k].fMod l[k].fName hsz1 hsz2)
      clear hbel hc1 hsz
      generalize l[k] = f at *
      have hbx := Box.new wr 54 #[.string f.fMod, .string f.fName, .int .i64 f.fSum]
      have X0 := Lib.hid hbx
      have B0 := Lib.hid (Hbel.out.alloc hsr (.cells #[.string f.fMod, .string f.fName, .int .i64 f.fSum] 54))
      have M0 := Lib.hid (Hmap.out.below ((Below.refl _ _).alloc (Nat.le_refl _) (.cells #[.string f.fMod, .string f.fName, .int .i64 f.fSum] 54)))
      clear hbx
      go_wp2_with fail
      refine (iIsSeen f _ hsz1 hsz2).mono ?_
      rintro e w2 ⟨rfl, hb2⟩
      have X2 := X0.out.below hb2 X0.out.lt
      have x0 := X2.cell 0
      have x1 := X2.cell 1
      have x2 := X2.cell 2
      simp at x0 x1 x2
      have B2 := Lib.hid (B0.out.trans (hb2.mono B0.out.size))
      have M2 := Lib.hid (M0.out.below (hb2.mono (Nat.le_refl _)))
      clear hb2 X2
      by_cases hok : seenOk f
      · have hq : seenOkB f = true := by unfold seenOkB; simpa using hok
        have Hok := Lib.hid hok
        clear hok
        go_wp2_with fail
        refine (iUseOf f w2).mono ?_
        rintro e w3 ⟨rfl, hb3⟩
        have B3 := Lib.hid (B2.out.trans (hb3.mono B2.out.size))
        have M3 := Lib.hid (M2.out.below hb3)
        clear hb3 hq x0 x1 x2
        go_wp2_with fail
        refine (iPutUse w.heap.size k H f.fMod f.fName w3 hsz1 hsz2 (by unfold maxLen; omega) M3.out).mono ?_
        rintro e w4 ⟨q, rfl, hqH, hmp, ho⟩
        have B4 := Lib.hid (B3.out.trans (ho.below (Nat.le_refl _) M3.out.lt))
        have HqH := Lib.hid hqH
        have Hmp := Lib.hid hmp
        clear hqH hmp ho
        cases q
        · obtain ⟨i, hi, hik, h1, h2⟩ := Hd.out.1 (by simpa using HqH.out)
          have Hv := Lib.hid (Htw.out i hik ⟨h1.symm, h2.symm⟩)
          clear h1 h2
          go_wp2_with fail
          go_ret
          exact ⟨by rw [Hv.out]; rfl, B4.out⟩
        · have Hn := Lib.hid (Hnx.out Hok.out (fun i hi hik h => by
            have h2 := HqH.out
            have h3 := Hd.out.2 ⟨i, hi, hik, h.1.symm, h.2.symm⟩
            simp at h2
            exact h2 h3))
          have M4 := Lib.hid (show UMap w4 w.heap.size (k + 1) _ by simpa using Hmp.out)
          go_wp2_with fail
          exact ⟨⟨k + 1, _, by congr 1, by omega, Hn.out, M4.out, Hput.out, B4.out⟩, by simp [intOf]; omega⟩
      · have hq : seenOkB f = false := by unfold seenOkB; simpa using hok
        have Hv := Lib.hid (Hbad.out hok)
        clear hok
        go_wp2_with fail
        go_ret
        exact ⟨by rw [Hv.out]; rfl, B2.out⟩
    · obtain rfl : k = l.length := by omega
      have Hv := Lib.hid (seenB_true ⟨by omega, Hto.out⟩)
      have Hbel := Lib.hid hbel
      clear hbel
      go_wp2_with fail
      go_ret
      exact ⟨by rw [Hv.out]; rfl, Hbel.out⟩
end Go.Proofs.Ytkhlekpkggglpaa
