
/-
  What is proved: the contract of the program's alike. No condition beside what each theorem states.
-/
import Derived.Test.YtkbgkfmflieidaaEqHeads
namespace Go.Proofs.Ytkbgkfmflieidaa
open Go.ChangeShapes Go.WideShapes Go.ChangeAt Go.RowKit Go.Maps Go.WideMaps

theorem near.types {l : List TypeD} (h : near l) {p : Nat} (hp : p < l.length) {i : Nat} (hi : i < l[p].fFields.length) : 0 ≤ l[p].fFields[i].fType ∧ l[p].fFields[i].fType < (l.length : Int) :=
  h.parts p hp _ (by unfold partsD; exact List.mem_append_right _ (List.mem_map_of_mem (List.getElem_mem hi)))
theorem near.based {l : List TypeD} (h : near l) {p : Nat} (hp : p < l.length) (hb : l[p].fBase ≠ -1) : 0 ≤ l[p].fBase ∧ l[p].fBase < (l.length : Int) :=
  h.parts p hp _ (by unfold partsD; rw [if_neg hb]; simp)
/-- The fields up to the j-th are alike by the pairs that are held. -/
def FieldsTo (t u : TypeD) (L : List (Int × Int)) (k : Nat) : Prop := ∀ i (h : i < t.fFields.length) (h' : i < u.fFields.length), i < k → t.fFields[i].fName = u.fFields[i].fName ∧ t.fFields[i].fMark = u.fFields[i].fMark ∧ (t.fFields[i].fType, u.fFields[i].fType) ∈ L
theorem FieldsTo.next {t u : TypeD} {L L' : List (Int × Int)} {k : Nat} (h : FieldsTo t u L k) (hL : ∀ p ∈ L, p ∈ L') (hk : k < t.fFields.length) (hk' : k < u.fFields.length) (h1 : t.fFields[k].fName = u.fFields[k].fName) (h2 : t.fFields[k].fMark = u.fFields[k].fMark) (h3 : (t.fFields[k].fType, u.fFields[k].fType) ∈ L') : FieldsTo t u L' (k + 1) := fun i hi hi' hik => by
  by_cases e : i = k
  · subst e; exact ⟨h1, h2, h3⟩
  · obtain ⟨a, b, c⟩ := h i hi hi' (by omega); exact ⟨a, b, hL _ c⟩

set_option maxRecDepth 100000 in
set_option maxHeartbeats 8000000 in
theorem iAlike (A B : List TypeD) (hA : near A) (hB : near B) (a b : Option Addr) (ca cb g : Nat) : ∀ (m : Nat) (L : List (Int × Int)) (f : Lit → Bool) (nf : Nat) (x y : Int) (w : World), 577 ≤ L.length + m → Held A B L → inTables A B (x, y) → BMap 84 w g nf f → nf ≤ L.length → toldP A B L f → Rows typeS (fun b => b ≠ g) w a A → Rows typeS (fun b => b ≠ g) w b B →
    Calls Try.prog 35 #[.agg #[.slice a A.length ca, .slice b B.length cb, .map (some g)], .int .i64 x, .int .i64 y] w (IsSame A B w g L x y) := by
  intro m
  induction m with
  | zero => intro L f nf x y w hm hh _ _ _ _ _ _; have := hh.most hA.most hB.most; omega
  | succ m ih =>
    intro L f nf x y w hm hh hxy hmap hnf htold hra hrb
    have IH := Lib.hid ih
    have Hh := Lib.hid hh
    have Hxy := Lib.hid hxy
    have Ht := Lib.hid htold
    have Ha := Lib.hid hra
    have Hb := Lib.hid hrb
    have h24A := hA.most
    have h24B := hB.most
    have hmost := hh.most h24A h24B
    unfold inTables at hxy
    simp only at hxy
    have hkey := pairKey (wfInt hxy.1.1 (by omega)) (wfInt hxy.2.1 (by omega))
    obtain ⟨p, rfl⟩ := Int.eq_ofNat_of_zero_le hxy.1.1
    obtain ⟨q, rfl⟩ := Int.eq_ofNat_of_zero_le hxy.2.1
    have hp : p < A.length := by omega
    have hq : q < B.length := by omega
    have hgl := hmap.lt
    have HA := Lib.hid hA
    have HB := Lib.hid hB
    -- the blocks of this call
    have M2 := Lib.hid ((hmap.alloc (.cells #[.slice a A.length ca, .slice b B.length cb, .map (some g)] 62)).alloc (.cells #[.int .i64 p, .int .i64 q] 84))
    have hlook := M2.out.look pairKeyed Try.underlying60 hkey
    obtain ⟨w3, hput, hmap3, hgr3⟩ := M2.out.put pairKeyed Try.underlying60 (by unfold maxLen; omega) hkey true
    have M3 := Lib.hid hmap3
    have X2 := Lib.hid ((Box.new w 62 #[.slice a A.length ca, .slice b B.length cb, .map (some g)]).alloc (.cells #[.int .i64 p, .int .i64 q] 84))
    have Y2 := Lib.hid (Box.new' (w.alloc (.cells #[.slice a A.length ca, .slice b B.length cb, .map (some g)] 62)) 84 #[.int .i64 (p : Int), .int .i64 (q : Int)] (g := w.heap.size + 1) (by simp))
    have O2 := Lib.hid (((Only.refl g w).alloc (.cells #[.slice a A.length ca, .slice b B.length cb, .map (some g)] 62)).alloc (.cells #[.int .i64 p, .int .i64 q] 84))
    have O3 := Lib.hid (O2.out.trans hgr3)
    have X3 := X2.out.only hgr3 (by omega)
    have Y3 := Y2.out.only hgr3 (by omega)
    have x30 := X3.cell 0
    have x31 := X3.cell 1
    have x32 := X3.cell 2
    have y30 := Y3.cell 0
    have y31 := Y3.cell 1
    simp at x30 x31 x32 y30 y31
    have HX3 := Lib.hid X3
    have HY3 := Lib.hid Y3
    clear X3 Y3 hmap3 hgr3 ih hh htold hra hrb hmap
    cases hf : f (pairK (p : Int) (q : Int)) with
    | true =>
      rw [hf] at hlook
      have hin := (Ht.out _ _ Hxy.out).1 hf
      have Hin := Lib.hid hin
      clear hput hin
      go_enter Try.func35, Try.ntmps35
      go_wp2_with fail
      go_ret
      exact .inl ⟨rfl, L, f, nf, Grew.refl Hh.out, Hin.out, M2.out, hnf, Ht.out, O2.out⟩
    | false =>
      rw [hf] at hlook
      have hnin : ((p : Int), (q : Int)) ∉ L := fun h => by rw [(Ht.out _ _ Hxy.out).2 h] at hf; cases hf
      have Hnin := Lib.hid hnin
      clear hnin
      have RA3 := Lib.hid (Ha.out.only O3.out)
      have RB3 := Lib.hid (Hb.out.only O3.out)
      obtain ⟨ab, ao, ta3, tc3, rfl, al, aq, ea0, ea1, ea2, ea3, ea4, ea5, raf⟩ := type_at RA3.out hp
      obtain ⟨bb, bo, ub3, uc3, rfl, bl, bq, eb0, eb1, eb2, eb3, eb4, eb5, rbf⟩ := type_at RB3.out hq
      have Raf := Lib.hid raf
      have Rbf := Lib.hid rbf
      clear raf rbf
      have Hsim := Lib.hid (fun h : Sim A B (p : Int) (q : Int) => h.closed hp hq)
      have Hcl := Lib.hid (fun (H : Int → Int → Prop) (h1 : headsEq A[p] B[q]) (h2 : Parts A[p] B[q] H) => show Closed A B H (p : Int) (q : Int) from ⟨p, q, hp, hq, rfl, rfl, h1, h2⟩)
      have Hta := Lib.hid (fun (i : Nat) (hi : i < A[p].fFields.length) => hA.types hp hi)
      have Htb := Lib.hid (fun (i : Nat) (hi : i < B[q].fFields.length) => hB.types hq hi)
      have Hba := Lib.hid (fun (h : A[p].fBase ≠ -1) => hA.based hp h)
      have Hbb := Lib.hid (fun (h : B[q].fBase ≠ -1) => hB.based hq h)
      have h6 := hA.six A[p] (List.getElem_mem hp)
      generalize A[p] = t at *
      generalize B[q] = u at *
      go_enter Try.func35, Try.ntmps35
      have lx := HX3.out.lt
      have ly := HY3.out.lt
      go_wp2_with fail
      have hs3 := O3.out.size
      have T1 := Lib.hid (((Box.new w3 56 (typeA t ta3 tc3)).alloc (.cells (typeA u ub3 uc3) 56)).drew)
      have U1 := Lib.hid ((Box.new' (w3.alloc (.cells (typeA t ta3 tc3) 56)) 56 (typeA u ub3 uc3) (g := w3.heap.size + 1) (by simp)).drew)
      have U2 := Lib.hid (((Box.new w3 56 (typeA u ub3 uc3)).alloc (.cells (typeA t ta3 tc3) 56)).drew)
      have T2 := Lib.hid ((Box.new' (w3.alloc (.cells (typeA u ub3 uc3) 56)) 56 (typeA t ta3 tc3) (g := w3.heap.size + 1) (by simp)).drew)
      have D1 := Lib.hid ((((Below.refl w3.heap.size w3).alloc (Nat.le_refl _) (.cells (typeA t ta3 tc3) 56)).alloc (by simp) (.cells (typeA u ub3 uc3) 56)).drew)
      have D2 := Lib.hid ((((Below.refl w3.heap.size w3).alloc (Nat.le_refl _) (.cells (typeA u ub3 uc3) 56)).alloc (by simp) (.cells (typeA t ta3 tc3) 56)).drew)
      apply once
      case rest =>
        intro key
        go_region
        all_goals
          first
            | (generalize hw5 : World.drew (World.alloc (World.alloc w3 (.cells #[.int .i64 t.fKind, .int .i64 t.fLong, .int .i64 t.fBase, .slice ta3 t.fFields.length tc3, .string t.fOwner, .string t.fName] 56)) (.cells #[.int .i64 u.fKind, .int .i64 u.fLong, .int .i64 u.fBase, .slice ub3 u.fFields.length uc3, .string u.fOwner, .string u.fName] 56)) = w5
               refine (show Exit.then _ _ _ _ w5 from ?_)
               have D5 : Hid (Below w3.heap.size w3 w5) := Lib.hid (hw5 ▸ D1.out)
               obtain ⟨gu, hgu⟩ : ∃ n, n = w3.heap.size + 1 := ⟨_, rfl⟩
               rw [← hgu]
               obtain ⟨gt, hgt⟩ : ∃ n, n = w3.heap.size := ⟨_, rfl⟩
               rw [show Value.pointer (some (⟨w3.heap.size, 0, none⟩ : Addr)) = .pointer (some ⟨gt, 0, none⟩) by rw [hgt]]
               have T5 : Hid (Box w5 gt 56 (typeA t ta3 tc3)) := Lib.hid (by rw [hgt]; exact hw5 ▸ T1.out)
               have U5 : Hid (Box w5 gu 56 (typeA u ub3 uc3)) := Lib.hid (by rw [hgu]; exact hw5 ▸ U1.out)
               have hne : gt ≠ gu := by omega
               have hgt3 : w3.heap.size ≤ gt := by omega
               have hgu3 : w3.heap.size ≤ gu := by omega
               clear hw5 hgt hgu)
            | (generalize hw5 : World.drew (World.alloc (World.alloc w3 (.cells #[.int .i64 u.fKind, .int .i64 u.fLong, .int .i64 u.fBase, .slice ub3 u.fFields.length uc3, .string u.fOwner, .string u.fName] 56)) (.cells #[.int .i64 t.fKind, .int .i64 t.fLong, .int .i64 t.fBase, .slice ta3 t.fFields.length tc3, .string t.fOwner, .string t.fName] 56)) = w5
               have D5 : Hid (Below w3.heap.size w3 w5) := Lib.hid (hw5 ▸ D2.out)
               obtain ⟨gt, hgt⟩ : ∃ n, n = w3.heap.size + 1 := ⟨_, rfl⟩
               rw [← hgt]
               obtain ⟨gu, hgu⟩ : ∃ n, n = w3.heap.size := ⟨_, rfl⟩
               rw [show Value.pointer (some (⟨w3.heap.size, 0, none⟩ : Addr)) = .pointer (some ⟨gu, 0, none⟩) by rw [hgu]]
               have T5 : Hid (Box w5 gt 56 (typeA t ta3 tc3)) := Lib.hid (by rw [hgt]; exact hw5 ▸ T2.out)
               have U5 : Hid (Box w5 gu 56 (typeA u ub3 uc3)) := Lib.hid (by rw [hgu]; exact hw5 ▸ U2.out)
               have hne : gt ≠ gu := by omega
               have hgt3 : w3.heap.size ≤ gt := by omega
               have hgu3 : w3.heap.size ≤ gu := by omega
               clear hw5 hgt hgu)
          revert hgu3
          revert hgt3
          revert hne
          revert U5
          revert T5
          revert D5
          revert w5
          revert gu
          revert gt
          exact key
      case heavy =>
        intro gt gu w5 D5 T5 U5 hne hgt3 hgu3
        as_aux_lemma =>
          have hs5 := D5.out.size
          have lt := T5.out.lt
          have lu := U5.out.lt
          have t0 := T5.out.cell 0
          have t1 := T5.out.cell 1
          have t2 := T5.out.cell 2
          have t3 := T5.out.cell 3
          have t4 := T5.out.cell 4
          have t5 := T5.out.cell 5
          have u0 := U5.out.cell 0
          have u1 := U5.out.cell 1
          have u2 := U5.out.cell 2
          have u3 := U5.out.cell 3
          have u4 := U5.out.cell 4
          have u5 := U5.out.cell 5
          simp at t0 t1 t2 t3 t4 t5 u0 u1 u2 u3 u4 u5
          have heq := eqHeads t.fOwner t.fName u.fOwner u.fName t.fKind t.fLong t.fFields.length u.fKind u.fLong u.fFields.length (t.fBase != -1) (u.fBase != -1)
          obtain ⟨hq, hhq⟩ : ∃ hq : Bool, ((t.fOwner.toList == u.fOwner.toList) && ((t.fName.toList == u.fName.toList) && ((t.fKind == u.fKind) && ((t.fLong == u.fLong) && (((t.fFields.length : Int) == (u.fFields.length : Int)) && ((t.fBase != -1) == (u.fBase != -1))))))) = hq := ⟨_, rfl⟩
          rw [hhq] at heq
          have Hhq := Lib.hid hhq
          clear hhq
          go_wp2_with fail
          go_region_held3 (fun w' => w'.cell? ⟨gt, 0, none⟩ = some (.int .i64 t.fKind) ∧ w'.cell? ⟨gt, 1, none⟩ = some (.int .i64 t.fLong) ∧ w'.cell? ⟨gt, 2, none⟩ = some (.int .i64 t.fBase) ∧ w'.cell? ⟨gt, 3, none⟩ = some (.slice ta3 t.fFields.length tc3) ∧ w'.cell? ⟨gt, 4, none⟩ = some (.string t.fOwner) ∧ w'.cell? ⟨gt, 5, none⟩ = some (.string t.fName) ∧ w'.cell? ⟨gu, 0, none⟩ = some (.int .i64 u.fKind) ∧ w'.cell? ⟨gu, 1, none⟩ = some (.int .i64 u.fLong) ∧ w'.cell? ⟨gu, 2, none⟩ = some (.int .i64 u.fBase) ∧ w'.cell? ⟨gu, 3, none⟩ = some (.slice ub3 u.fFields.length uc3) ∧ w'.cell? ⟨gu, 4, none⟩ = some (.string u.fOwner) ∧ w'.cell? ⟨gu, 5, none⟩ = some (.string u.fName))
            (first
              | exact ⟨t0, t1, t2, t3, t4, t5, u0, u1, u2, u3, u4, u5⟩
              | go_keep
              | (go_split_ands
                 refine ⟨?_, ?_, ?_, ?_, ?_, ?_, ?_, ?_, ?_, ?_, ?_, ?_⟩ <;> (rw [hbh.cell (by simp at *; omega)]; assumption)))
            (first
              | (go_at_call 60; refine (iHeadOf _ _ _ _ _ _ _ _ _).mono ?_; rintro e wh ⟨rfl, hbh⟩; have hsz := hbh.size))
          have hD := ‹Below w5.drew.heap.size w5.drew _›
          have D6 := Lib.hid ((belowN D5.out 1).trans ((hD.trans (hbh.mono hD.size)).mono (belowN D5.out 1).size))
          have T6 := Lib.hid ((T5.out.drew.below hD (by simpa using lt)).below hbh (by have := hD.size; simp at this; omega))
          have U6 := Lib.hid ((U5.out.drew.below hD (by simpa using lu)).below hbh (by have := hD.size; simp at this; omega))
          have O6 := Lib.hid (O3.out.trans (Only.ofBelow D6.out))
          have X6 := Lib.hid (HX3.out.below D6.out (by omega))
          have M6 := Lib.hid (M3.out.block (D6.out.block g (by omega)))
          clear hD hbh t0 t1 t2 t3 t4 t5 u0 u1 u2 u3 u4 u5 heq
          cases hq with
          | false =>
            have Hno := Lib.hid (show ¬ Sim A B (p : Int) (q : Int) from fun h => by have := heads_bool.2 (Hsim.out h).1; rw [Hhq.out] at this; cases this)
            go_wp2_with fail
            go_ret
            exact .inr ⟨rfl, Hno.out, O6.out⟩
          | true =>
            have Hhe := Lib.hid (heads_bool.1 Hhq.out)
            have Hfl := Lib.hid Hhe.out.2.2.2.2.1
            have Hh1 := Lib.hid (Hh.out.put Hxy.out Hnin.out)
            have Ht1 := Lib.hid (Ht.out.put h24A h24B Hxy.out)
            have t3 := T6.out.cell 3
            simp at t3
            go_wp2_with fail
            go_loopw [41] (fun i wr => ∃ (k : Nat) (L1 : List (Int × Int)) (f1 : Lit → Bool) (n1 : Nat), i = .int .i64 k ∧ k ≤ t.fFields.length ∧ Grew A B (L ++ [((p : Int), (q : Int))]) L1 ∧ FieldsTo t u L1 k ∧ BMap 84 wr g n1 f1 ∧ n1 ≤ L1.length ∧ toldP A B L1 f1 ∧ Only g wh wr) (fun i _ => t.fFields.length - (intOf i).toNat)
            case atStart => exact ⟨0, _, _, _, rfl, by omega, Grew.refl Hh1.out, fun i _ _ h => absurd h (by omega), M6.out, by simp; omega, Ht1.out, Only.refl _ _⟩
            case round =>
              obtain ⟨k, L1, f1, n1, rfl, hk, hgrew, hfields, hmap, hn1, htold, honly⟩ := hrel
              have Hg := Lib.hid hgrew
              have Hf := Lib.hid hfields
              have Hm := Lib.hid hmap
              have Htl := Lib.hid htold
              have Ho := Lib.hid honly
              have hl1 := hgrew.len
              simp only [List.length_append, List.length_singleton] at hl1
              have O7 := Lib.hid (O6.out.trans honly)
              have T7 := T6.out.only honly (by omega)
              have U7 := U6.out.only honly (by omega)
              have X7 := X6.out.only honly (by omega)
              have t2 := T7.cell 2
              have t3 := T7.cell 3
              have u2 := U7.cell 2
              have u3 := U7.cell 3
              have x0 := X7.cell 0
              have x1 := X7.cell 1
              have x2 := X7.cell 2
              simp at t2 t3 u2 u3 x0 x1 x2
              have lt7 := T7.lt
              have lu7 := U7.lt
              have lx7 := X7.lt
              have hgw := hmap.lt
              clear hgrew hfields hmap htold honly T7 U7 X7
              by_cases hlt : k < t.fFields.length
              · have hlt' : k < u.fFields.length := by have := Hfl.out; omega
                have O36 := (Only.ofBelow (g := g) D6.out).trans Ho.out
                obtain ⟨bf, of, cs, rfl, _, hbf, hcf, hat⟩ := (Raf.out.only O36) k hlt
                obtain rfl : cs = [.string t.fFields[k].fName, .int .i64 t.fFields[k].fMark, .int .i64 t.fFields[k].fType] := hat
                obtain ⟨cf, pf, cs, rfl, _, hcf1, hpf, hat⟩ := (Rbf.out.only O36) k hlt'
                obtain rfl : cs = [.string u.fFields[k].fName, .int .i64 u.fFields[k].fMark, .int .i64 u.fFields[k].fType] := hat
                have hn3 : fieldS.n = 3 := rfl
                have k0 := hcf 0 (by decide)
                have k1 := hcf 1 (by decide)
                have k2 := hcf 2 (by decide)
                have l0 := hpf 0 (by decide)
                have l1 := hpf 1 (by decide)
                have l2 := hpf 2 (by decide)
                simp [hn3] at k0 k1 k2 l0 l1 l2
                have Hin := Lib.hid (show inTables A B (t.fFields[k].fType, u.fFields[k].fType) from ⟨Hta.out k hlt, Htb.out k hlt'⟩)
                have Hnx := Lib.hid (fun L' hL => Hf.out.next (L' := L') hL hlt hlt')
                have Hbad := Lib.hid (fun h : Sim A B (p : Int) (q : Int) => (Hsim.out h).2.1 k hlt hlt')
                clear hcf hpf O36
                generalize t.fFields[k] = tf at *
                generalize u.fFields[k] = uf at *
                by_cases hnm : tf.fName = uf.fName
                · have qn := bytes_same tf.fName uf.fName true (by simp [hnm])
                  have Hnm := Lib.hid hnm
                  clear hnm
                  by_cases hmk : tf.fMark = uf.fMark
                  · have qm : (tf.fMark == uf.fMark) = true := beq_iff_eq.2 hmk
                    have qm2 : (tf.fMark != uf.fMark) = false := by rw [bne, qm]; rfl
                    have Hmk := Lib.hid hmk
                    clear hmk
                    go_wp2_with fail
                    have OW := (O7.out.alloc (.cells #[.string tf.fName, .int .i64 tf.fMark, .int .i64 tf.fType] 58)).alloc (.cells #[.string uf.fName, .int .i64 uf.fMark, .int .i64 uf.fType] 58)
                    refine (IH.out L1 f1 n1 tf.fType uf.fType _ (by omega) Hg.out.held Hin.out ((Hm.out.alloc _).alloc _) hn1 Htl.out (Ha.out.only OW) (Hb.out.only OW)).mono ?_
                    rintro e w8 hsame
                    have OH := (Ho.out.alloc (.cells #[.string tf.fName, .int .i64 tf.fMark, .int .i64 tf.fType] 58)).alloc (.cells #[.string uf.fName, .int .i64 uf.fMark, .int .i64 uf.fType] 58)
                    rcases hsame with ⟨rfl, L2, f2, n2, hg2, hin2, hm2, hn2, ht2, ho2⟩ | ⟨rfl, hns, ho2⟩
                    · have Hg2 := Lib.hid (Hg.out.trans hg2)
                      have Hnx2 := Lib.hid (Hnx.out L2 hg2.old Hnm.out Hmk.out hin2)
                      have Hm2 := Lib.hid hm2
                      have Ht2 := Lib.hid ht2
                      have Ho2 := Lib.hid (OH.trans ho2)
                      clear OW OH hg2 hin2 hm2 ht2 ho2
                      go_wp2_with fail
                      go_round
                      case rel =>
                        repeat apply Exists.intro
                        exact ⟨⟨k + 1, L2, f2, n2, rfl, by omega, Hg2.out, Hnx2.out, Hm2.out, hn2, Ht2.out, Ho2.out⟩, rfl⟩
                      case measure => simp [intOf]; omega
                    · have Hno := Lib.hid (show ¬ Sim A B (p : Int) (q : Int) from fun h => hns (Hbad.out h).2.2)
                      have Ho2 := Lib.hid (OW.trans ho2)
                      clear OW OH hns ho2
                      go_wp2_with fail
                      go_ret
                      exact .inr ⟨rfl, Hno.out, Ho2.out⟩
                  · have qm : (tf.fMark == uf.fMark) = false := beq_eq_false_iff_ne.2 hmk
                    have qm2 : (tf.fMark != uf.fMark) = true := bne_iff_ne.2 hmk
                    have Hno := Lib.hid (show ¬ Sim A B (p : Int) (q : Int) from fun h => hmk (Hbad.out h).2.1)
                    clear hmk
                    go_wp2_with fail
                    go_ret
                    exact .inr ⟨rfl, Hno.out, (O7.out.alloc _).alloc _⟩
                · have qn := bytes_same tf.fName uf.fName false (by simp [hnm])
                  have Hno := Lib.hid (show ¬ Sim A B (p : Int) (q : Int) from fun h => hnm (Hbad.out h).1)
                  clear hnm
                  go_wp2_with fail
                  go_ret
                  exact .inr ⟨rfl, Hno.out, (O7.out.alloc _).alloc _⟩
              · have Hfa := Lib.hid (show ∀ L' : List (Int × Int), (∀ z ∈ L1, z ∈ L') → (t.fBase ≠ -1 → (t.fBase, u.fBase) ∈ L') → Parts t u (fun x y => (x, y) ∈ L') from fun L' hL hb => ⟨fun i h h' => by obtain ⟨a, b, c⟩ := Hf.out i h h' (by omega); exact ⟨a, b, hL _ c⟩, hb⟩)
                by_cases hbs : t.fBase = -1
                · have qb : (t.fBase == -1) = true := beq_iff_eq.2 hbs
                  have Hend := Lib.hid (Hg.out.pair (Hcl.out _ Hhe.out (Hfa.out L1 (fun _ h => h) (fun h => absurd hbs h))))
                  clear hbs
                  go_wp2_with fail
                  go_ret
                  exact .inl ⟨rfl, L1, f1, n1, Hend.out.1, Hend.out.2, Hm.out, hn1, Htl.out, O7.out⟩
                · have qb : (t.fBase == -1) = false := beq_eq_false_iff_ne.2 hbs
                  have Hin := Lib.hid (show inTables A B (t.fBase, u.fBase) from ⟨Hba.out hbs, Hbb.out (fun h => hbs (Hhe.out.2.2.2.2.2.2 h))⟩)
                  have Hbad := Lib.hid (fun h : Sim A B (p : Int) (q : Int) => (Hsim.out h).2.2 hbs)
                  clear hbs
                  go_wp2_with fail
                  refine (IH.out L1 f1 n1 t.fBase u.fBase _ (by omega) Hg.out.held Hin.out Hm.out hn1 Htl.out (Ha.out.only O7.out) (Hb.out.only O7.out)).mono ?_
                  rintro e w8 hsame
                  rcases hsame with ⟨rfl, L2, f2, n2, hg2, hin2, hm2, hn2, ht2, ho2⟩ | ⟨rfl, hns, ho2⟩
                  · have Hend := Lib.hid ((Hg.out.trans hg2).pair (Hcl.out _ Hhe.out (Hfa.out L2 hg2.old (fun _ => hin2))))
                    have Hm2 := Lib.hid hm2
                    have Ht2 := Lib.hid ht2
                    have Ho2 := Lib.hid (O7.out.trans ho2)
                    clear hg2 hin2 hm2 ht2 ho2
                    go_wp2_with fail
                    go_ret
                    exact .inl ⟨rfl, L2, f2, n2, Hend.out.1, Hend.out.2, Hm2.out, hn2, Ht2.out, Ho2.out⟩
                  · have Hno := Lib.hid (show ¬ Sim A B (p : Int) (q : Int) from fun h => hns (Hbad.out h))
                    have Ho2 := Lib.hid (O7.out.trans ho2)
                    clear hns ho2
                    go_wp2_with fail
                    go_ret
                    exact .inr ⟨rfl, Hno.out, Ho2.out⟩
end Go.Proofs.Ytkbgkfmflieidaa
