
/-
  What is proved: the contract of the model's same. No condition beside what each theorem states.
-/
import Derived.Test.YtkbgkfmflieidaaEqHeads
import Derived.Test.YtkbgkfmflieidaaISame
namespace Go.Proofs.Ytkbgkfmflieidaa
open Go.ChangeShapes Go.WideShapes Go.ChangeAt Go.RowKit Go.Maps Go.WideMaps

theorem sSame_out (p : Value) (x y : Int) (w : World) (h : x < 0 ∨ y < 0) :
    Calls Try.prog 61 #[p, .int .i64 x, .int .i64 y] w fun e w' => e = .returned (.bool (decide (x < 0 ∧ y < 0))) ∧ w = w' := by
  by_cases hx : x < 0
  · by_cases hy : y < 0
    · have Hv := Lib.hid (show decide (x < 0 ∧ y < 0) = true from decide_eq_true ⟨hx, hy⟩)
      go_enter Try.func61, Try.ntmps61
      go_wp2_with fail
      go_ret
      exact ⟨by first | (rw [Hv.out]; rfl) | rfl, rfl⟩
    · have Hv := Lib.hid (show decide (x < 0 ∧ y < 0) = false from decide_eq_false (fun h => hy h.2))
      have dy : decide (y < 0) = false := decide_eq_false hy
      go_enter Try.func61, Try.ntmps61
      go_wp2_with fail
      go_ret
      exact ⟨by first | (rw [Hv.out]; rfl) | rfl, rfl⟩
  · have hy : y < 0 := h.resolve_left hx
    have Hv := Lib.hid (show decide (x < 0 ∧ y < 0) = false from decide_eq_false (fun h => hx h.1))
    have dx : decide (x < 0) = false := decide_eq_false hx
    go_enter Try.func61, Try.ntmps61
    go_wp2_with fail
    go_ret
    exact ⟨by first | (rw [Hv.out]; rfl) | rfl, rfl⟩

abbrev boxS (A B : List TypeD) (a b : Option Addr) (ca cb : Nat) (v : Value) : Array Value := #[.slice a A.length ca, .slice b B.length cb, v]
def IsSameS (A B : List TypeD) (a b : Option Addr) (ca cb : Nat) (w : World) (gs B0 : Nat) (v : Value) (L : List (Int × Int)) (x y : Int) (e : Ending) (w' : World) : Prop :=
  (e = .returned (.bool true) ∧ ∃ L' v', Grew A B L L' ∧ (x, y) ∈ L' ∧ Box w' gs 93 (boxS A B a b ca cb v') ∧ HeldV w' B0 v' L' ∧ (∀ k, v'.ownBlock = some k → v.ownBlock = some k ∨ w.heap.size ≤ k) ∧ OnlyH gs v w w') ∨ (e = .returned (.bool false) ∧ ¬ Sim A B x y ∧ OnlyH gs v w w')

set_option maxRecDepth 100000 in
set_option maxHeartbeats 16000000 in
theorem sSame (A B : List TypeD) (hA : near A) (hB : near B) (a b : Option Addr) (ca cb gs B0 : Nat) (hgB : gs < B0) : ∀ (m : Nat) (L : List (Int × Int)) (v : Value) (x y : Int) (w : World), 577 ≤ L.length + m → Held A B L → inTables A B (x, y) → Box w gs 93 (boxS A B a b ca cb v) → HeldV w B0 v L → B0 ≤ w.heap.size → Rows typeS (fun k => k ≠ gs ∧ k < B0) w a A → Rows typeS (fun k => k ≠ gs ∧ k < B0) w b B →
    Calls Try.prog 61 #[.pointer (some ⟨gs, 0, none⟩), .int .i64 x, .int .i64 y] w (IsSameS A B a b ca cb w gs B0 v L x y) := by
  intro m
  induction m with
  | zero => intro L v x y w hm hh _ _ _ _ _ _; have := hh.most hA.most hB.most; omega
  | succ m ih =>
    intro L v x y w hm hh hxy hbox hown hB0 hra hrb
    have IH := Lib.hid ih
    have Hh := Lib.hid hh
    have Hxy := Lib.hid hxy
    have Ha := Lib.hid hra
    have Hb := Lib.hid hrb
    have h24A := hA.most
    have h24B := hB.most
    have hmost := hh.most h24A h24B
    unfold inTables at hxy
    simp only at hxy
    obtain ⟨p, rfl⟩ := Int.eq_ofNat_of_zero_le hxy.1.1
    obtain ⟨q, rfl⟩ := Int.eq_ofNat_of_zero_le hxy.2.1
    have hp : p < A.length := by omega
    have hq : q < B.length := by omega
    have HA := Lib.hid hA
    have HB := Lib.hid hB
    have s0 := hbox.cell 0
    have s1 := hbox.cell 1
    have s2 := hbox.cell 2
    simp at s0 s1 s2
    have hgl := hbox.lt
    have Hbox := Lib.hid hbox
    have Ho := Lib.hid hown
    obtain ⟨va, vc, rfl, hcells⟩ := hown.slice
    have Hc := Lib.hid hcells
    clear hcells hown hbox ih hh hra hrb
    go_enter Try.func61, Try.ntmps61
    go_wp2_with fail
    go_loopw [31] (fun i wr => ∃ k : Nat, i = .int .i64 k ∧ k ≤ L.length ∧ (∀ j (hj : j < L.length), j < k → L[j] ≠ ((p : Int), (q : Int))) ∧ Below w.heap.size w wr) (fun i _ => L.length - (intOf i).toNat)
    case atStart => exact ⟨0, rfl, by omega, fun j _ h => absurd h (by omega), Below.refl _ _⟩
    case round =>
      obtain ⟨k, rfl, hk, hno, hbel⟩ := hrel
      have Hno := Lib.hid hno
      clear hno
      by_cases hlt : k < L.length
      · obtain ⟨g', rfl, hg', c0, c1⟩ := Hc.out k hlt
        replace c0 := (hbel.cell (p := ⟨g', k * 2, none⟩) hg').trans c0
        replace c1 := (hbel.cell (p := ⟨g', k * 2 + 1, none⟩) hg').trans c1
        have Hbel := Lib.hid hbel
        have hsz := hbel.size
        clear hbel
        have heq := eqPair L[k].1 L[k].2 p q
        by_cases he : L[k] = ((p : Int), (q : Int))
        · have Hin := Lib.hid (show ((p : Int), (q : Int)) ∈ L from he ▸ List.getElem_mem hlt)
          have hb : ((L[k].1 == (p : Int)) && (L[k].2 == (q : Int))) = true := by rw [he]; simp
          rw [hb] at heq
          clear he hb
          generalize L[k] = pr at *
          go_wp2_with fail
          go_ret
          have BB := Hbel.out.alloc hsz (.cells #[.int .i64 pr.1, .int .i64 pr.2] 118)
          exact .inl ⟨rfl, L, _, Grew.refl Hh.out, Hin.out, Hbox.out.below BB hgl, Ho.out.keep (fun k hk => BB.block k (Ho.out.lt k hk).2), fun k hk => .inl hk, OnlyH.ofBelow BB⟩
        · have hb : ((L[k].1 == (p : Int)) && (L[k].2 == (q : Int))) = false := by
            rw [Bool.eq_false_iff]
            intro h
            rw [Bool.and_eq_true, beq_iff_eq, beq_iff_eq] at h
            exact he (Prod.ext h.1 h.2)
          rw [hb] at heq
          have Hno' := Lib.hid (show ∀ j (hj : j < L.length), j < k + 1 → L[j] ≠ ((p : Int), (q : Int)) from fun j hj hjk => by
            by_cases e : j = k
            · subst e; exact he
            · exact Hno.out j hj (by omega))
          clear he hb
          generalize L[k] = pr at *
          go_wp2_with fail
          go_round
          case rel => exact ⟨k + 1, by go_num, by omega, Hno'.out, Hbel.out.alloc hsz _⟩
          case measure => simp [intOf]; omega
      · have Hnin := Lib.hid (show ((p : Int), (q : Int)) ∉ L from fun h => by
          obtain ⟨j, hj, e⟩ := List.getElem_of_mem h
          exact Hno.out j hj (by omega) e)
        have s0 := (hbel.cell (p := ⟨gs, 0, none⟩) hgl).trans s0
        have s1 := (hbel.cell (p := ⟨gs, 1, none⟩) hgl).trans s1
        have s2 := (hbel.cell (p := ⟨gs, 2, none⟩) hgl).trans s2
        have O1 := Lib.hid (Ho.out.keep (fun k hk => hbel.block k (Ho.out.lt k hk).2))
        have X1 := Lib.hid (Hbox.out.below hbel hgl)
        have hsz := hbel.size
        have Hbel := Lib.hid hbel
        clear hbel
        go_wp2_with (at_builtin; refine wpList_pushPair rfl (.tmp 45) (.tmp 49) rfl B0 _ _ L rfl O1.out p q _ rfl rfl (by omega) (by omega) ?_)
        intro v' w2 hown2 hg2 hk2
        obtain ⟨va', vc', hv', _⟩ := hown2.slice
        rw [List.length_append, List.length_singleton] at hv'
        subst hv'
        have hvl := Ho.out.lt
        have X2 : Box w2 gs 93 (boxS A B a b ca cb (.slice va L.length vc)) := (hg2.block gs X1.out.lt (fun e => by have := hvl gs e.symm; omega)).trans X1.out
        have X4 := Lib.hid (show Box (w2.setCell ⟨gs, 2, none⟩ (.slice va' (L.length + 1) vc')) gs 93 (boxS A B a b ca cb (.slice va' (L.length + 1) vc')) from X2.set 2 (.slice va' (L.length + 1) vc'))
        have hol := hown2.lt
        have H4 := Lib.hid (hown2.keep (w' := w2.setCell ⟨gs, 2, none⟩ (.slice va' (L.length + 1) vc')) (fun k hk => Below.heap_setCell w2 _ _ _ (by have := hol k hk; show k ≠ gs; omega)))
        have O4 := Lib.hid ((((OnlyH.ofBelow Hbel.out).trans (OnlyH.ofGrown hg2) (fun k hk => .inl hk)).set 2 (.slice va' (L.length + 1) vc') : OnlyH gs (.slice va L.length vc) w (w2.setCell ⟨gs, 2, none⟩ (.slice va' (L.length + 1) vc'))))
        have K4 := Lib.hid (show ∀ k, (Value.slice va' (L.length + 1) vc').ownBlock = some k → (Value.slice va L.length vc).ownBlock = some k ∨ w.heap.size ≤ k from fun k hk => (hk2 k hk).imp id (fun h => by omega))
        have RA4 := Lib.hid (Ha.out.onlyH O4.out (fun k hk => (hvl k hk).1))
        have RB4 := Lib.hid (Hb.out.onlyH O4.out (fun k hk => (hvl k hk).1))
        have q0 := X2.cell 0
        have q1 := X2.cell 1
        have q2 := X2.cell 2
        have qf := X2.free 2
        simp at q0 q1 q2
        clear hg2 hk2 hown2
        go_wp2_with fail
        have hs4 : w2.heap.size = (w2.setCell ⟨gs, 2, none⟩ (.slice va' (L.length + 1) vc')).heap.size := by simp [World.setCell]
        clear q0 q1 q2 qf X2
        generalize hw4 : w2.setCell ⟨gs, 2, none⟩ (.slice va' (L.length + 1) vc') = w4 at *
        clear hw4
        obtain ⟨ab, ao, ta3, tc3, rfl, al, aq, ea0, ea1, ea2, ea3, ea4, ea5, raf⟩ := type_at RA4.out hp
        obtain ⟨bb, bo, ub3, uc3, rfl, bl, bq, eb0, eb1, eb2, eb3, eb4, eb5, rbf⟩ := type_at RB4.out hq
        have Raf := Lib.hid raf
        have Rbf := Lib.hid rbf
        have r0 := X4.out.cell 0
        have r1 := X4.out.cell 1
        have r2 := X4.out.cell 2
        simp at r0 r1 r2
        have lx := X4.out.lt
        clear raf rbf s0 s1 s2
        have Hsim := Lib.hid (fun h : Sim A B (p : Int) (q : Int) => h.closed hp hq)
        have Hcl := Lib.hid (fun (H : Int → Int → Prop) (h1 : headsEq A[p] B[q]) (h2 : Parts A[p] B[q] H) => show Closed A B H (p : Int) (q : Int) from ⟨p, q, hp, hq, rfl, rfl, h1, h2⟩)
        have Hta := Lib.hid (fun (i : Nat) (hi : i < A[p].fFields.length) => hA.types hp hi)
        have Htb := Lib.hid (fun (i : Nat) (hi : i < B[q].fFields.length) => hB.types hq hi)
        have Hba := Lib.hid (fun (h : A[p].fBase ≠ -1) => hA.based hp h)
        have Hbb := Lib.hid (fun (h : B[q].fBase ≠ -1) => hB.based hq h)
        have h6 := hA.six A[p] (List.getElem_mem hp)
        generalize A[p] = t at *
        generalize B[q] = u at *
        have T1 := Lib.hid (((Box.new w4 56 (typeA t ta3 tc3)).alloc (.cells (typeA u ub3 uc3) 56)).drew)
        have U1 := Lib.hid ((Box.new' (w4.alloc (.cells (typeA t ta3 tc3) 56)) 56 (typeA u ub3 uc3) (g := w4.heap.size + 1) (by simp)).drew)
        have U2 := Lib.hid (((Box.new w4 56 (typeA u ub3 uc3)).alloc (.cells (typeA t ta3 tc3) 56)).drew)
        have T2 := Lib.hid ((Box.new' (w4.alloc (.cells (typeA u ub3 uc3) 56)) 56 (typeA t ta3 tc3) (g := w4.heap.size + 1) (by simp)).drew)
        have D1 := Lib.hid ((((Below.refl w4.heap.size w4).alloc (Nat.le_refl _) (.cells (typeA t ta3 tc3) 56)).alloc (by simp) (.cells (typeA u ub3 uc3) 56)).drew)
        have D2 := Lib.hid ((((Below.refl w4.heap.size w4).alloc (Nat.le_refl _) (.cells (typeA u ub3 uc3) 56)).alloc (by simp) (.cells (typeA t ta3 tc3) 56)).drew)
        apply once
        case rest =>
          intro key
          go_region
          all_goals
            first
              | (generalize hw5 : World.drew (World.alloc (World.alloc w4 (.cells #[.int .i64 t.fKind, .int .i64 t.fLong, .int .i64 t.fBase, .slice ta3 t.fFields.length tc3, .string t.fOwner, .string t.fName] 56)) (.cells #[.int .i64 u.fKind, .int .i64 u.fLong, .int .i64 u.fBase, .slice ub3 u.fFields.length uc3, .string u.fOwner, .string u.fName] 56)) = w5
                 refine (show Exit.then _ _ _ _ w5 from ?_)
                 have D5 : Hid (Below w4.heap.size w4 w5) := Lib.hid (hw5 ▸ D1.out)
                 obtain ⟨gu, hgu⟩ : ∃ n, n = w4.heap.size + 1 := ⟨_, rfl⟩
                 rw [← hgu]
                 obtain ⟨gt, hgt⟩ : ∃ n, n = w4.heap.size := ⟨_, rfl⟩
                 rw [show Value.pointer (some (⟨w4.heap.size, 0, none⟩ : Addr)) = .pointer (some ⟨gt, 0, none⟩) by rw [hgt]]
                 have T5 : Hid (Box w5 gt 56 (typeA t ta3 tc3)) := Lib.hid (by rw [hgt]; exact hw5 ▸ T1.out)
                 have U5 : Hid (Box w5 gu 56 (typeA u ub3 uc3)) := Lib.hid (by rw [hgu]; exact hw5 ▸ U1.out)
                 have hne : gt ≠ gu := by omega
                 have hgt3 : w4.heap.size ≤ gt := by omega
                 have hgu3 : w4.heap.size ≤ gu := by omega
                 clear hw5 hgt hgu)
              | (generalize hw5 : World.drew (World.alloc (World.alloc w4 (.cells #[.int .i64 u.fKind, .int .i64 u.fLong, .int .i64 u.fBase, .slice ub3 u.fFields.length uc3, .string u.fOwner, .string u.fName] 56)) (.cells #[.int .i64 t.fKind, .int .i64 t.fLong, .int .i64 t.fBase, .slice ta3 t.fFields.length tc3, .string t.fOwner, .string t.fName] 56)) = w5
                 have D5 : Hid (Below w4.heap.size w4 w5) := Lib.hid (hw5 ▸ D2.out)
                 obtain ⟨gt, hgt⟩ : ∃ n, n = w4.heap.size + 1 := ⟨_, rfl⟩
                 rw [← hgt]
                 obtain ⟨gu, hgu⟩ : ∃ n, n = w4.heap.size := ⟨_, rfl⟩
                 rw [show Value.pointer (some (⟨w4.heap.size, 0, none⟩ : Addr)) = .pointer (some ⟨gu, 0, none⟩) by rw [hgu]]
                 have T5 : Hid (Box w5 gt 56 (typeA t ta3 tc3)) := Lib.hid (by rw [hgt]; exact hw5 ▸ T2.out)
                 have U5 : Hid (Box w5 gu 56 (typeA u ub3 uc3)) := Lib.hid (by rw [hgu]; exact hw5 ▸ U2.out)
                 have hne : gt ≠ gu := by omega
                 have hgt3 : w4.heap.size ≤ gt := by omega
                 have hgu3 : w4.heap.size ≤ gu := by omega
                 clear hw5 hgt hgu)
            revert hgu3
            revert hgt3
            revert hne
            revert U5
            revert T5
            revert D5
            revert w5
            revert gu
            revert gt
            exact key
        case heavy =>
          intro gt gu w5 D5 T5 U5 hne hgt3 hgu3
          as_aux_lemma =>
            have hs5 := D5.out.size
            have X5 := Lib.hid (X4.out.below D5.out lx)
            have H5 := Lib.hid (H4.out.keep (fun k hk => D5.out.block k (H4.out.lt k hk).2))
            have O5 := Lib.hid (O4.out.trans (OnlyH.ofBelow D5.out) (fun k hk => .inl hk))
            have Hh1 := Lib.hid (Hh.out.put Hxy.out Hnin.out)
            have hsw := hsz
            have hw5 : w.heap.size ≤ w5.heap.size := O5.out.2.2.2.1
            have hgt5 := T5.out.lt
            have hgu5 := U5.out.lt
            have hvgt : ∀ k, (Value.slice va' (L.length + 1) vc').ownBlock = some k → k < w4.heap.size := fun k hk => (H4.out.lt k hk).2
            have hbase : Calls Try.prog 61 #[.pointer (some ⟨gs, 0, none⟩), .int .i64 t.fBase, .int .i64 u.fBase] w5 (fun e w' =>
                (e = .returned (.bool true) ∧ ∃ L' v', Grew A B (L ++ [((p : Int), (q : Int))]) L' ∧ (t.fBase = -1 ↔ u.fBase = -1) ∧ (t.fBase ≠ -1 → (t.fBase, u.fBase) ∈ L') ∧ Box w' gs 93 (boxS A B (some ⟨ab, ao, none⟩) (some ⟨bb, bo, none⟩) ca cb v') ∧ HeldV w' B0 v' L' ∧ (∀ k, v'.ownBlock = some k → (Value.slice va' (L.length + 1) vc').ownBlock = some k ∨ w5.heap.size ≤ k) ∧ OnlyH gs (Value.slice va' (L.length + 1) vc') w5 w') ∨
                (e = .returned (.bool false) ∧ ¬ ((t.fBase = -1 ↔ u.fBase = -1) ∧ (t.fBase ≠ -1 → Sim A B t.fBase u.fBase)) ∧ OnlyH gs (Value.slice va' (L.length + 1) vc') w5 w')) := by
              by_cases h1 : t.fBase = -1
              · refine (sSame_out _ t.fBase u.fBase w5 (.inl (by omega))).mono ?_
                rintro e w' ⟨rfl, rfl⟩
                by_cases h2 : u.fBase = -1
                · exact .inl ⟨by rw [decide_eq_true (show t.fBase < 0 ∧ u.fBase < 0 from ⟨by omega, by omega⟩)], _, _, Grew.refl Hh1.out, ⟨fun _ => h2, fun _ => h1⟩, fun h => absurd h1 h, X5.out, H5.out, fun k hk => .inl hk, OnlyH.refl _ _ _⟩
                · have := Hbb.out h2
                  exact .inr ⟨by rw [decide_eq_false (show ¬ (t.fBase < 0 ∧ u.fBase < 0) from fun h => by omega)], fun h => h2 (h.1.1 h1), OnlyH.refl _ _ _⟩
              · have hb1 := Hba.out h1
                by_cases h2 : u.fBase = -1
                · refine (sSame_out _ t.fBase u.fBase w5 (.inr (by omega))).mono ?_
                  rintro e w' ⟨rfl, rfl⟩
                  exact .inr ⟨by rw [decide_eq_false (show ¬ (t.fBase < 0 ∧ u.fBase < 0) from fun h => by omega)], fun h => h1 (h.1.2 h2), OnlyH.refl _ _ _⟩
                · refine (IH.out (L ++ [((p : Int), (q : Int))]) _ t.fBase u.fBase w5 (by simp only [List.length_append, List.length_singleton]; omega) Hh1.out ⟨hb1, Hbb.out h2⟩ X5.out H5.out (by omega) (Ha.out.onlyH O5.out (fun k hk => (hvl k hk).1)) (Hb.out.onlyH O5.out (fun k hk => (hvl k hk).1))).mono ?_
                  rintro e w' hs
                  rcases hs with ⟨rfl, L', v', c1, c2, c3, c4, c5, c6⟩ | ⟨rfl, c1, c2⟩
                  · exact .inl ⟨rfl, L', v', c1, ⟨fun h => absurd h h1, fun h => absurd h h2⟩, fun _ => c2, c3, c4, c5, c6⟩
                  · exact .inr ⟨rfl, fun h => c1 (h.2 h1), c2⟩
            have Hbase := Lib.hid hbase
            have t0 := T5.out.cell 0
            have t1 := T5.out.cell 1
            have t2 := T5.out.cell 2
            have t3 := T5.out.cell 3
            have t4 := T5.out.cell 4
            have t5 := T5.out.cell 5
            have u0 := U5.out.cell 0
            have u1 := U5.out.cell 1
            have u2 := U5.out.cell 2
            have u3 := U5.out.cell 3
            have u4 := U5.out.cell 4
            have u5 := U5.out.cell 5
            simp at t0 t1 t2 t3 t4 t5 u0 u1 u2 u3 u4 u5
            clear hbase
            by_cases kd : t.fKind = u.fKind
            · have qkd : (t.fKind == u.fKind) = true := beq_iff_eq.2 kd
              have qkd2 : (t.fKind != u.fKind) = false := by rw [bne, qkd]; rfl
              have Hkd := Lib.hid kd
              clear kd
              by_cases lg : t.fLong = u.fLong
              · have qlg : (t.fLong == u.fLong) = true := beq_iff_eq.2 lg
                have qlg2 : (t.fLong != u.fLong) = false := by rw [bne, qlg]; rfl
                have Hlg := Lib.hid lg
                clear lg
                by_cases ow : t.fOwner = u.fOwner
                · have qow := bytes_same t.fOwner u.fOwner true (by simp [ow])
                  have How := Lib.hid ow
                  clear ow
                  by_cases nm : t.fName = u.fName
                  · have qnm := bytes_same t.fName u.fName true (by simp [nm])
                    have Hnm := Lib.hid nm
                    clear nm
                    by_cases ln : t.fFields.length = u.fFields.length
                    · have qln : ((t.fFields.length : Int) == (u.fFields.length : Int)) = true := beq_iff_eq.2 (show (t.fFields.length : Int) = (u.fFields.length : Int) by omega)
                      have qln2 : ((t.fFields.length : Int) != (u.fFields.length : Int)) = false := by rw [bne, qln]; rfl
                      have Hln := Lib.hid ln
                      clear ln
                      as_aux_lemma =>
                        go_wp2_with fail
                        refine Hbase.out.mono ?_
                        rintro e w6 hs
                        rcases hs with ⟨rfl, L6, v6, g6, hbq, hbm, x6, h6, k6, o6⟩ | ⟨rfl, hns, o6⟩
                        · have G6 := Lib.hid g6
                          have Hhe := Lib.hid (show headsEq t u from ⟨How.out, Hnm.out, Hkd.out, Hlg.out, Hln.out, hbq⟩)
                          have Hbm := Lib.hid hbm
                          have X6 := Lib.hid x6
                          have H6 := Lib.hid h6
                          have K6 := Lib.hid (show ∀ k, v6.ownBlock = some k → (Value.slice va L.length vc).ownBlock = some k ∨ w.heap.size ≤ k from fun k hk => (k6 k hk).elim (fun h => K4.out k h) (fun h => .inr (by omega)))
                          have N6 := Lib.hid (show v6.ownBlock ≠ some gt ∧ v6.ownBlock ≠ some gu from ⟨fun e => (k6 gt e).elim (fun h => by have := hvgt gt h; omega) (fun h => by omega), fun e => (k6 gu e).elim (fun h => by have := hvgt gu h; omega) (fun h => by omega)⟩)
                          have O6 := Lib.hid (O5.out.trans o6 K4.out)
                          have T6 := Lib.hid (T5.out.onlyH o6 (by omega) (fun e => by have := hvgt gt e; omega))
                          have U6 := Lib.hid (U5.out.onlyH o6 (by omega) (fun e => by have := hvgt gu e; omega))
                          have Of := Lib.hid o6
                          clear g6 hbm x6 h6 k6 o6 hbq t0 t1 t2 t3 t4 t5 u0 u1 u2 u3 u4 u5
                          have t3 := T6.out.cell 3
                          simp at t3
                          go_wp2_with fail
                          go_loopw [114] (fun i wq => ∃ (k : Nat) (L2 : List (Int × Int)) (v2 : Value), i = .int .i64 k ∧ k ≤ t.fFields.length ∧ Grew A B (L ++ [((p : Int), (q : Int))]) L2 ∧ FieldsTo t u L2 k ∧ (t.fBase ≠ -1 → (t.fBase, u.fBase) ∈ L2) ∧ Box wq gs 93 (boxS A B (some ⟨ab, ao, none⟩) (some ⟨bb, bo, none⟩) ca cb v2) ∧ HeldV wq B0 v2 L2 ∧ (∀ k, v2.ownBlock = some k → (Value.slice va L.length vc).ownBlock = some k ∨ w.heap.size ≤ k) ∧ (v2.ownBlock ≠ some gt ∧ v2.ownBlock ≠ some gu) ∧ OnlyH gs (Value.slice va L.length vc) w wq ∧ Box wq gt 56 (typeA t ta3 tc3) ∧ Box wq gu 56 (typeA u ub3 uc3)) (fun i _ => t.fFields.length - (intOf i).toNat)
                          case atStart => exact ⟨0, L6, v6, rfl, by omega, G6.out, fun i _ _ h => absurd h (by omega), Hbm.out, X6.out, H6.out, K6.out, N6.out, O6.out, T6.out, U6.out⟩
                          case round =>
                            obtain ⟨k, L2, v2, rfl, hk, hgrew, hfields, hbm2, hx2, hh2, hk2, hn2, ho2, ht2, hu2⟩ := hrel
                            have Hg := Lib.hid hgrew
                            have Hf := Lib.hid hfields
                            have Hb2 := Lib.hid hbm2
                            have X7 := Lib.hid hx2
                            have H7 := Lib.hid hh2
                            have K7 := Lib.hid hk2
                            have N7 := Lib.hid hn2
                            have O7 := Lib.hid ho2
                            have T7 := Lib.hid ht2
                            have U7 := Lib.hid hu2
                            have hl1 := hgrew.len
                            simp only [List.length_append, List.length_singleton] at hl1
                            have t2 := ht2.cell 2
                            have t3 := ht2.cell 3
                            have u2 := hu2.cell 2
                            have u3 := hu2.cell 3
                            simp at t2 t3 u2 u3
                            have lt7 := ht2.lt
                            have lu7 := hu2.lt
                            have hw7 : w.heap.size ≤ wr.heap.size := ho2.2.2.2.1
                            have RA7 := Lib.hid (Ha.out.onlyH ho2 (fun k hk => (hvl k hk).1))
                            have RB7 := Lib.hid (Hb.out.onlyH ho2 (fun k hk => (hvl k hk).1))
                            clear hgrew hfields hbm2 hx2 hh2 hk2 hn2 ho2 ht2 hu2
                            by_cases hlt : k < t.fFields.length
                            · have hlt' : k < u.fFields.length := by have := Hln.out; omega
                              have hkeep : ∀ c, (c ≠ gs ∧ c < B0) → c < w4.heap.size → wr.heap[c]? = w4.heap[c]? := fun c hc _ => (O7.out.2.2.2.2 c (by omega) hc.1 (fun e => by have := (hvl c e).1; omega)).trans (O4.out.2.2.2.2 c (by omega) hc.1 (fun e => by have := (hvl c e).1; omega)).symm
                              obtain ⟨bf, of, cs, rfl, _, hbf, hcf, hat⟩ := (Raf.out.keep hkeep (by omega)) k hlt
                              obtain rfl : cs = [.string t.fFields[k].fName, .int .i64 t.fFields[k].fMark, .int .i64 t.fFields[k].fType] := hat
                              obtain ⟨cf, pf, cs, rfl, _, hcf1, hpf, hat⟩ := (Rbf.out.keep hkeep (by omega)) k hlt'
                              obtain rfl : cs = [.string u.fFields[k].fName, .int .i64 u.fFields[k].fMark, .int .i64 u.fFields[k].fType] := hat
                              have hn3 : fieldS.n = 3 := rfl
                              have k0 := hcf 0 (by decide)
                              have k1 := hcf 1 (by decide)
                              have k2 := hcf 2 (by decide)
                              have l0 := hpf 0 (by decide)
                              have l1 := hpf 1 (by decide)
                              have l2 := hpf 2 (by decide)
                              simp [hn3] at k0 k1 k2 l0 l1 l2
                              have Hin := Lib.hid (show inTables A B (t.fFields[k].fType, u.fFields[k].fType) from ⟨Hta.out k hlt, Htb.out k hlt'⟩)
                              have Hnx := Lib.hid (fun L' hL => Hf.out.next (L' := L') hL hlt hlt')
                              have Hbad := Lib.hid (fun h : Sim A B (p : Int) (q : Int) => (Hsim.out h).2.1 k hlt hlt')
                              clear hcf hpf hkeep
                              generalize t.fFields[k] = tf at *
                              generalize u.fFields[k] = uf at *
                              by_cases hnm : tf.fName = uf.fName
                              · have qn := bytes_same tf.fName uf.fName true (by simp [hnm])
                                have Hn1 := Lib.hid hnm
                                clear hnm
                                by_cases hmk : tf.fMark = uf.fMark
                                · have qm : (tf.fMark == uf.fMark) = true := beq_iff_eq.2 hmk
                                  have qm2 : (tf.fMark != uf.fMark) = false := by rw [bne, qm]; rfl
                                  have Hmk := Lib.hid hmk
                                  clear hmk
                                  as_aux_lemma =>
                                    go_wp2_with fail
                                    have hsW : ((wr.alloc (.cells #[.string tf.fName, .int .i64 tf.fMark, .int .i64 tf.fType] 58)).alloc (.cells #[.string uf.fName, .int .i64 uf.fMark, .int .i64 uf.fType] 58)).heap.size = wr.heap.size + 1 + 1 := by simp
                                    have OW := (O7.out.alloc (.cells #[.string tf.fName, .int .i64 tf.fMark, .int .i64 tf.fType] 58)).alloc (.cells #[.string uf.fName, .int .i64 uf.fMark, .int .i64 uf.fType] 58)
                                    have XW := (X7.out.alloc (.cells #[.string tf.fName, .int .i64 tf.fMark, .int .i64 tf.fType] 58)).alloc (.cells #[.string uf.fName, .int .i64 uf.fMark, .int .i64 uf.fType] 58)
                                    have TW := (T7.out.alloc (.cells #[.string tf.fName, .int .i64 tf.fMark, .int .i64 tf.fType] 58)).alloc (.cells #[.string uf.fName, .int .i64 uf.fMark, .int .i64 uf.fType] 58)
                                    have UW := (U7.out.alloc (.cells #[.string tf.fName, .int .i64 tf.fMark, .int .i64 tf.fType] 58)).alloc (.cells #[.string uf.fName, .int .i64 uf.fMark, .int .i64 uf.fType] 58)
                                    refine (IH.out L2 v2 tf.fType uf.fType _ (by omega) Hg.out.held Hin.out XW ((H7.out.alloc _).alloc _) (by omega) (Ha.out.onlyH OW (fun k hk => (hvl k hk).1)) (Hb.out.onlyH OW (fun k hk => (hvl k hk).1))).mono ?_
                                    rintro e w8 hsame
                                    rcases hsame with ⟨rfl, L3, v3, hg3, hin3, hx3, hh3, hk3, ho3⟩ | ⟨rfl, hns, ho3⟩
                                    · have Hg3 := Lib.hid (Hg.out.trans hg3)
                                      have Hnx3 := Lib.hid (Hnx.out L3 hg3.old Hn1.out Hmk.out hin3)
                                      have Hb3 := Lib.hid (fun h => hg3.old _ (Hb2.out h))
                                      have X8 := Lib.hid hx3
                                      have H8 := Lib.hid hh3
                                      have K8 := Lib.hid (show ∀ k, v3.ownBlock = some k → (Value.slice va L.length vc).ownBlock = some k ∨ w.heap.size ≤ k from fun k hk => (hk3 k hk).elim (fun h => K7.out k h) (fun h => .inr (by omega)))
                                      have N8 := Lib.hid (show v3.ownBlock ≠ some gt ∧ v3.ownBlock ≠ some gu from ⟨fun e => (hk3 gt e).elim (fun h => N7.out.1 h) (fun h => by omega), fun e => (hk3 gu e).elim (fun h => N7.out.2 h) (fun h => by omega)⟩)
                                      have O8 := Lib.hid (OW.trans ho3 K7.out)
                                      have T8 := Lib.hid (TW.onlyH ho3 (by omega) N7.out.1)
                                      have U8 := Lib.hid (UW.onlyH ho3 (by omega) N7.out.2)
                                      clear OW XW TW UW hg3 hin3 hx3 hh3 hk3 ho3 hsW
                                      go_wp2_with fail
                                      go_round
                                      case rel =>
                                        exact ⟨k + 1, L3, v3, by go_num, by omega, Hg3.out, Hnx3.out, Hb3.out, X8.out, H8.out, K8.out, N8.out, O8.out, T8.out, U8.out⟩
                                      case measure => simp [intOf]; omega
                                    · have Hno := Lib.hid (show ¬ Sim A B (p : Int) (q : Int) from fun h => hns (Hbad.out h).2.2)
                                      have O8 := Lib.hid (OW.trans ho3 K7.out)
                                      clear OW XW TW UW hns ho3 hsW
                                      go_wp2_with fail
                                      go_ret
                                      exact .inr ⟨rfl, Hno.out, O8.out⟩
                                · have qm : (tf.fMark == uf.fMark) = false := beq_eq_false_iff_ne.2 hmk
                                  have qm2 : (tf.fMark != uf.fMark) = true := bne_iff_ne.2 hmk
                                  have Hno := Lib.hid (show ¬ Sim A B (p : Int) (q : Int) from fun h => hmk (Hbad.out h).2.1)
                                  clear hmk
                                  as_aux_lemma =>
                                    go_wp2_with fail
                                    go_ret
                                    exact .inr ⟨rfl, Hno.out, (O7.out.alloc _).alloc _⟩
                              · have qn := bytes_same tf.fName uf.fName false (by simp [hnm])
                                have Hno := Lib.hid (show ¬ Sim A B (p : Int) (q : Int) from fun h => hnm (Hbad.out h).1)
                                clear hnm
                                as_aux_lemma =>
                                  go_wp2_with fail
                                  go_ret
                                  exact .inr ⟨rfl, Hno.out, (O7.out.alloc _).alloc _⟩
                            · have Hfa := Lib.hid (show Parts t u (fun x y => (x, y) ∈ L2) from ⟨fun i h h' => Hf.out i h h' (by omega), Hb2.out⟩)
                              have Hend := Lib.hid (Hg.out.pair (Hcl.out _ Hhe.out Hfa.out))
                              go_wp2_with fail
                              go_ret
                              exact .inl ⟨rfl, L2, v2, Hend.out.1, Hend.out.2, X7.out, H7.out, K7.out, O7.out⟩
                        · have Hno := Lib.hid (show ¬ Sim A B (p : Int) (q : Int) from fun h => hns ⟨(Hsim.out h).1.2.2.2.2.2, (Hsim.out h).2.2⟩)
                          have O6 := Lib.hid (O5.out.trans o6 K4.out)
                          clear hns o6
                          go_wp2_with fail
                          go_ret
                          exact .inr ⟨rfl, Hno.out, O6.out⟩
                    · have qln : ((t.fFields.length : Int) == (u.fFields.length : Int)) = false := beq_eq_false_iff_ne.2 (show ¬ (t.fFields.length : Int) = (u.fFields.length : Int) by omega)
                      have qln2 : ((t.fFields.length : Int) != (u.fFields.length : Int)) = true := bne_iff_ne.2 (show ¬ (t.fFields.length : Int) = (u.fFields.length : Int) by omega)
                      have Hno := Lib.hid (show ¬ Sim A B (p : Int) (q : Int) from fun h => ln (Hsim.out h).1.2.2.2.2.1)
                      clear ln
                      as_aux_lemma =>
                        go_wp2_with fail
                        go_ret
                        exact .inr ⟨rfl, Hno.out, O5.out⟩
                  · have qnm := bytes_same t.fName u.fName false (by simp [nm])
                    have Hno := Lib.hid (show ¬ Sim A B (p : Int) (q : Int) from fun h => nm (Hsim.out h).1.2.1)
                    clear nm
                    as_aux_lemma =>
                      go_wp2_with fail
                      go_ret
                      exact .inr ⟨rfl, Hno.out, O5.out⟩
                · have qow := bytes_same t.fOwner u.fOwner false (by simp [ow])
                  have Hno := Lib.hid (show ¬ Sim A B (p : Int) (q : Int) from fun h => ow (Hsim.out h).1.1)
                  clear ow
                  as_aux_lemma =>
                    go_wp2_with fail
                    go_ret
                    exact .inr ⟨rfl, Hno.out, O5.out⟩
              · have qlg : (t.fLong == u.fLong) = false := beq_eq_false_iff_ne.2 lg
                have qlg2 : (t.fLong != u.fLong) = true := bne_iff_ne.2 lg
                have Hno := Lib.hid (show ¬ Sim A B (p : Int) (q : Int) from fun h => lg (Hsim.out h).1.2.2.2.1)
                clear lg
                as_aux_lemma =>
                  go_wp2_with fail
                  go_ret
                  exact .inr ⟨rfl, Hno.out, O5.out⟩
            · have qkd : (t.fKind == u.fKind) = false := beq_eq_false_iff_ne.2 kd
              have qkd2 : (t.fKind != u.fKind) = true := bne_iff_ne.2 kd
              have Hno := Lib.hid (show ¬ Sim A B (p : Int) (q : Int) from fun h => kd (Hsim.out h).1.2.2.1)
              clear kd
              as_aux_lemma =>
                go_wp2_with fail
                go_ret
                exact .inr ⟨rfl, Hno.out, O5.out⟩
end Go.Proofs.Ytkbgkfmflieidaa
