
/-
  What is proved: contracts of the model's and the program's FileSum, and the walk of the law FnExactFileSum. No condition beside what each theorem states.
-/
import Derived.Test.YtaccifjkeblhpaaGreatLFileB
import Derived.Test.YtaccifjkeblhpaaGreatTextFin
namespace Go.Proofs.YtaccifjkeblhpaaGreat
open Go.ChangeShapes Go.WideShapes Go.ChangeAt Go.RowKit
set_option maxRecDepth 100000

/-- The q-th piece of 200 bytes. -/
def chunkB (b : ByteArray) (q : Nat) : ByteArray := b.extract (200 * q) (min (200 * q + 200) b.size)
/-- The sums of the first pieces. -/
def sumsZ (b : ByteArray) (q : Nat) : List Int := (List.range q).map fun i => textZ (chunkB b i)
/-- One number of all bytes. -/
def allZ (b : ByteArray) : Int := mixL (sumsZ b ((b.size + 199) / 200))
noncomputable def sumAns (s : ScopeD) : Int := if fileB s then allZ (fileZ s) else 0
theorem sumsZ_next (b : ByteArray) (q : Nat) : sumsZ b (q + 1) = sumsZ b q ++ [textZ (chunkB b q)] := by unfold sumsZ; rw [List.range_succ, List.map_append]; rfl
theorem sumsZ_len (b : ByteArray) (q : Nat) : (sumsZ b q).length = q := by unfold sumsZ; simp
theorem nums_chunk (b : ByteArray) (i j : Nat) : numsOf (b.extract i j) = ((numsOf b).take j).drop i := by
  unfold numsOf
  rw [ByteArray.data_extract, Array.toList_extract, List.extract_eq_take_drop, ← List.map_take, ← List.map_drop, List.drop_take]
theorem chunk_size (b : ByteArray) (q : Nat) (h : 200 * q < b.size) : (chunkB b q).size ≤ 200 ∧ 0 < (chunkB b q).size ∧ (chunkB b q).size = min (200 * q + 200) b.size - 200 * q := by
  unfold chunkB
  rw [ByteArray.size_extract]
  omega
theorem OwnInts.lt2 {w : World} {B : Nat} {v : Value} {l : List Int} (h : OwnInts w B v l) : ∀ k, v.ownBlock = some k → B ≤ k ∧ k < w.heap.size := World.ownsRow.lt h

set_option maxHeartbeats 16000000 in
theorem sFileSum (s : ScopeD) (a1 a2 a3 a4 : Option Addr) (w : World) (K : ScopeK s) (hr : ScopeR Any w a1 a2 a3 a4 s) :
    Calls Tryz.prog 15 #[.agg (scopeC s a1 a2 a3 a4 s.fImports.length s.fTypes.length s.fObjects.length s.fUses.length)] w fun e w' => e = .returned (.tuple #[.int .i64 (sumAns s), .bool (fileB s)]) ∧ Below w.heap.size w w' := by
  have B0 := Lib.hid ((Below.refl w.heap.size w).alloc (Nat.le_refl _) (.cells (scopeC s a1 a2 a3 a4 s.fImports.length s.fTypes.length s.fObjects.length s.fUses.length) 33))
  have X0 := Lib.hid (Box.new w 33 (scopeC s a1 a2 a3 a4 s.fImports.length s.fTypes.length s.fObjects.length s.fUses.length))
  have R0 := Lib.hid (hr.below B0.out)
  have HI := Lib.hid (fun W (hW : ScopeR Any W a1 a2 a3 a4 s) => sFileBytes s a1 a2 a3 a4 W K hW)
  clear hr K
  cases hq : fileB s
  · have HA := Lib.hid (show sumAns s = 0 by unfold sumAns; rw [hq]; rfl)
    have hb0 : fileAns s = ByteArray.empty := by unfold fileAns; rw [hq]; rfl
    rw [hq, hb0] at HI
    clear hb0
    go_enter Tryz.func15, Tryz.ntmps15
    obtain ⟨x0, x1, x2, x3, x4⟩ := box5 X0.out
    go_wp2_with fail
    refine (HI.out _ R0.out).mono ?_
    rintro e w1 ⟨rfl, hb⟩
    have B1 := Lib.hid (B0.out.trans (hb.mono B0.out.size))
    clear hb x0 x1 x2 x3 x4
    go_wp2_with fail
    go_ret2
    exact ⟨by rw [HA.out]; rfl, B1.out⟩
  · have HA := Lib.hid (show sumAns s = allZ (fileZ s) by unfold sumAns; rw [hq]; rfl)
    have hb0 : fileAns s = fileZ s := by unfold fileAns; rw [hq]; rfl
    have hsz : (fileZ s).size ≤ 3000 := by unfold fileB at hq; simp only [Bool.and_eq_true, decide_eq_true_eq] at hq; exact hq.2
    have hpos : 0 < (fileZ s).size := by unfold fileZ; rw [ByteArray.size_append, sumPart_size]; omega
    rw [hq, hb0] at HI
    clear hq hb0
    generalize fileZ s = b at *
    have Hz := Lib.hid (show allZ b = mixTo (sumsZ b ((b.size + 199) / 200)) (sumsZ b ((b.size + 199) / 200)).length from rfl)
    have Hlen := Lib.hid (numsOf_len b)
    have Hat := Lib.hid (numsOf_next b)
    have Hs := Lib.hid (show ∀ q (p : List Int), 200 * q < b.size → p = ((numsOf b).take (min (200 * q + 200) b.size)).drop (200 * q) → p.length ≤ 200 ∧ sumsZ b (q + 1) = sumsZ b q ++ [mixTo p p.length] from fun q p h1 h2 => by
      have hp : p = numsOf (chunkB b q) := by rw [h2]; unfold chunkB; rw [nums_chunk]
      refine ⟨by rw [hp, numsOf_len]; exact (chunk_size b q h1).1, ?_⟩
      rw [sumsZ_next, hp]
      rfl)
    have Hl := Lib.hid (sumsZ_len b)
    generalize allZ b = z at *
    generalize numsOf b = l at *
    generalize sumsZ b = S at *
    go_enter Tryz.func15, Tryz.ntmps15
    obtain ⟨x0, x1, x2, x3, x4⟩ := box5 X0.out
    go_wp2_with fail
    refine (HI.out _ R0.out).mono ?_
    rintro e w1 ⟨rfl, hb⟩
    have B1 := Lib.hid (B0.out.trans (hb.mono B0.out.size))
    clear hb x0 x1 x2 x3 x4 HI
    go_wp2_with fail
    go_loopw [6, 7, 8] (fun va vp i wr => ∃ k q : Nat, i = .int .i64 k ∧ k ≤ b.size ∧ ((k < b.size ∧ q = k / 200) ∨ (k = b.size ∧ q = (b.size + 199) / 200)) ∧ OwnInts wr w1.heap.size va (S q) ∧ (k < b.size → OwnInts wr w1.heap.size vp ((l.take k).drop (200 * q))) ∧ (∀ n, va.ownBlock = some n → vp.ownBlock ≠ some n) ∧ Below w1.heap.size w1 wr) (fun _ _ i _ => b.size - (intOf i).toNat)
    case atStart => exact ⟨0, 0, rfl, by omega, .inl ⟨hpos, by omega⟩, by have := Hl.out 0; rw [List.length_eq_zero_iff.1 this]; exact OwnInts.nil, fun _ => by simpa using OwnInts.nil, fun _ h => by simp [Value.ownBlock] at h, Below.refl _ _⟩
    case round =>
      obtain ⟨k, q, rfl, hk, hq, hoa, hop, hd, hbel⟩ := hrel
      have HOA := Lib.hid hoa
      have HD := Lib.hid hd
      have Hbel := Lib.hid hbel
      have hszb := hbel.size
      by_cases hlt : k < b.size
      · have hqk : q = k / 200 := by rcases hq with h | h <;> omega
        have HOP := Lib.hid (hop hlt)
        have Htk := Lib.hid (show (l.take k).drop (200 * q) ++ [(b[k].toNat : Int)] = (l.take (k + 1)).drop (200 * q) by
          rw [← Hat.out k hlt, List.drop_append_of_le_length (by rw [List.length_take, Hlen.out]; omega)])
        have hpl : ((l.take k).drop (200 * q)).length = k - 200 * q := by rw [List.length_drop, List.length_take, Hlen.out]; omega
        have i1 : (0 : Int) ≤ (k : Int) := by omega
        have i2 : (k : Int) < (b.size : Int) := by omega
        have hb := b[k].toNat_lt
        clear hoa hop hd hbel hq
        generalize hP : (l.take k).drop (200 * q) = p at *
        have HP := Lib.hid hP
        clear hP
        go_wp2_with (at_builtin; refine wpList_pushIntV rfl _ _ rfl w1.heap.size _ _ p rfl HOP.out _ _ rfl (by simp) ?c1 ?c2 ?_)
        case c1 => omega
        case c2 => exact hszb
        intro v' w2 hown2 hg2 hlt2 hne2
        have HB2 := Lib.hid (Hbel.out.grown hg2 hszb (fun k hk => (hlt2 k hk).1))
        have HA2 := Lib.hid (HOA.out.keep (fun n hn => hg2.block n (HOA.out.lt2 n hn).2 (fun e => HD.out n hn e.symm)))
        have HD2 := Lib.hid (show ∀ n, Value.ownBlock _ = some n → v'.ownBlock ≠ some n from fun n hn he => by
          rcases hne2 n he with h | h
          · exact HD.out n hn h
          · have := (HOA.out.lt2 n hn).2; omega)
        rw [Htk.out] at hown2
        have HP2 := Lib.hid hown2
        have hs12 := HB2.out.size
        clear hg2 hlt2 hne2 hown2
        have hpl2 : ((l.take (k + 1)).drop (200 * q)).length = k + 1 - 200 * q := by rw [List.length_drop, List.length_take, Hlen.out]; omega
        obtain ⟨m, hm⟩ : ∃ m, k + 1 - 200 * q = m := ⟨_, rfl⟩
        rw [hm] at hpl2
        have Hfl := Lib.hid (show m = 200 ∨ k + 1 = b.size → ((l.take (k + 1)).drop (200 * q)).length ≤ 200 ∧ S (q + 1) = S q ++ [mixTo ((l.take (k + 1)).drop (200 * q)) ((l.take (k + 1)).drop (200 * q)).length] from fun h => Hs.out q _ (by omega) (by rw [show min (200 * q + 200) b.size = k + 1 by omega]))
        have Hq := Lib.hid (And.intro hqk hm)
        obtain ⟨p2, hp2⟩ : ∃ p2, p2 = (l.take (k + 1)).drop (200 * q) := ⟨_, rfl⟩
        rw [← hp2] at hpl2 Hfl HP2
        have HPE := Lib.hid hp2
        clear hp2 Htk
        obtain ⟨ap, cp, rfl, _, hnp⟩ := HP2.out.nums
        have HNP := Lib.hid hnp
        rw [hpl2]
        clear hnp hqk hm
        have Fin := Lib.hid (show m = 200 ∨ k + 1 = b.size → ∀ W va2, OwnInts W w1.heap.size va2 (S (q + 1)) → Below w1.heap.size w1 W → ∃ k' q' : Nat, (Value.int .i64 ((k : Int) + 1)) = .int .i64 k' ∧ k' ≤ b.size ∧ ((k' < b.size ∧ q' = k' / 200) ∨ (k' = b.size ∧ q' = (b.size + 199) / 200)) ∧ OwnInts W w1.heap.size va2 (S q') ∧ (k' < b.size → OwnInts W w1.heap.size (.slice none 0 0) ((l.take k').drop (200 * q'))) ∧ (∀ n, va2.ownBlock = some n → (Value.slice none 0 0).ownBlock ≠ some n) ∧ Below w1.heap.size w1 W from fun h W va2 h1 h2 => by
          obtain ⟨hq1, hq2⟩ := Hq.out
          refine ⟨k + 1, q + 1, by congr 1, by omega, by omega, h1, fun h3 => ?_, fun _ _ he => by simp [Value.ownBlock] at he, h2⟩
          rw [List.drop_eq_nil_of_le (by rw [List.length_take]; omega)]
          exact OwnInts.nil)
        have Fin2 := Lib.hid (show ¬ m = 200 → ¬ k + 1 = b.size → k + 1 < b.size ∧ q = (k + 1) / 200 from fun h h' => by
          obtain ⟨hq1, hq2⟩ := Hq.out
          omega)
        by_cases e1 : m = 200
        · subst e1
          obtain ⟨hl2, hS⟩ := Hfl.out (.inl rfl)
          have HF := Lib.hid (Fin.out (.inl rfl))
          obtain ⟨M, hM⟩ : ∃ M, M = mixTo p2 p2.length := ⟨_, rfl⟩
          rw [← hM] at hS
          have HS := Lib.hid hS
          have HMX := Lib.hid (show Calls Tryz.prog 52 #[.slice ap 200 cp] w2 fun e w' => e = .returned (.int .i64 M) ∧ w2 = w' by
            have h := sl1MixAll ap cp p2 w2 hl2 HNP.out.ints
            rw [← hM, hpl2] at h
            exact h)
          clear hS hM Fin Fin2 Hfl HPE
          go_wp2_with fail
          refine HMX.out.mono ?_
          rintro e w' ⟨rfl, rfl⟩
          go_wp2_with (at_builtin; refine wpList_pushIntV rfl _ _ rfl w1.heap.size _ _ (S q) rfl HA2.out _ _ rfl (by simp) ?c3 ?c4 ?_)
          case c3 => rw [Hl.out]; have := Hq.out.1; omega
          case c4 => exact hs12
          intro v3 w3 hown3 hg3 hlt3 hne3
          have HB3 := Lib.hid (HB2.out.grown hg3 hs12 (fun k hk => (hlt3 k hk).1))
          rw [← HS.out] at hown3
          have HO3 := Lib.hid hown3
          clear hg3 hlt3 hne3 hown3
          go_wp2_with fail
          exact ⟨HF.out _ v3 HO3.out HB3.out, by simp [intOf]; omega⟩
        · have hm1 : ((m : Int) == 200) = false := by simp; omega
          by_cases e2 : k + 1 = b.size
          · have hm2 : ((k : Int) == (b.size : Int) - 1) = true := by simp; omega
            obtain ⟨hl2, hS⟩ := Hfl.out (.inr e2)
            have HF := Lib.hid (Fin.out (.inr e2))
            obtain ⟨M, hM⟩ : ∃ M, M = mixTo p2 p2.length := ⟨_, rfl⟩
            rw [← hM] at hS
            have HS := Lib.hid hS
            have HMX := Lib.hid (show Calls Tryz.prog 52 #[.slice ap m cp] w2 fun e w' => e = .returned (.int .i64 M) ∧ w2 = w' by
              have h := sl1MixAll ap cp p2 w2 hl2 HNP.out.ints
              rw [← hM, hpl2] at h
              exact h)
            clear hS hM Fin Fin2 Hfl HPE
            go_wp2_with fail
            refine HMX.out.mono ?_
            rintro e w' ⟨rfl, rfl⟩
            go_wp2_with (at_builtin; refine wpList_pushIntV rfl _ _ rfl w1.heap.size _ _ (S q) rfl HA2.out _ _ rfl (by simp) ?c3 ?c4 ?_)
            case c3 => rw [Hl.out]; have := Hq.out.1; omega
            case c4 => exact hs12
            intro v3 w3 hown3 hg3 hlt3 hne3
            have HB3 := Lib.hid (HB2.out.grown hg3 hs12 (fun k hk => (hlt3 k hk).1))
            rw [← HS.out] at hown3
            have HO3 := Lib.hid hown3
            clear hg3 hlt3 hne3 hown3
            go_wp2_with fail
            exact ⟨HF.out _ v3 HO3.out HB3.out, by simp [intOf]; omega⟩
          · obtain ⟨f1, f2⟩ := Fin2.out e1 e2
            have hm2 : ((k : Int) == (b.size : Int) - 1) = false := by simp; omega
            have HF2 := Lib.hid f2
            have HP3 := Lib.hid (show OwnInts w2 w1.heap.size (.slice ap m cp) ((l.take (k + 1)).drop (200 * q)) by rw [← HPE.out, ← hpl2]; exact HP2.out)
            have HD3 := Lib.hid (show ∀ n, Value.ownBlock _ = some n → (Value.slice ap m cp).ownBlock ≠ some n by rw [← hpl2]; exact HD2.out)
            clear f2 Fin Fin2 Hfl HPE
            go_wp2_with fail
            exact ⟨⟨k + 1, q, by congr 1, by omega, .inl ⟨f1, HF2.out⟩, HA2.out, fun _ => HP3.out, HD3.out, HB2.out⟩, by simp [intOf]; omega⟩
      · have hqe : q = (b.size + 199) / 200 := by rcases hq with h | h <;> omega
        subst hqe
        obtain ⟨a, c, rfl, hc, hn⟩ := HOA.out.nums
        have Hn := Lib.hid hn
        have hll : (S ((b.size + 199) / 200)).length ≤ 200 := by rw [Hl.out]; omega
        clear hn hoa hop hd hbel hq
        go_wp2_with fail
        refine (sl1MixAll a c _ _ hll Hn.out.ints).mono ?_
        rintro e w' ⟨rfl, rfl⟩
        go_wp2_with fail
        go_ret2
        exact ⟨by rw [HA.out, Hz.out]; rfl, B1.out.trans (Hbel.out.mono B1.out.size)⟩

theorem Byts.below {w w' : World} {a : Option Addr} {s : ByteArray} (h : Byts w a s) (hb : Below w.heap.size w w') : Byts w' a s := fun i hi => by
  obtain ⟨b, o, h1, h2, h3⟩ := h i hi
  exact ⟨b, o, h1, Nat.lt_of_lt_of_le h2 hb.size, (hb.cell (p := ⟨b, o + i, none⟩) h2).trans h3⟩
theorem Byts.sub {w : World} {g : Nat} {s : ByteArray} (h : Byts w (some ⟨g, 0, none⟩) s) (i j : Nat) (hj : j ≤ s.size) : Byts w (some ⟨g, i, none⟩) (s.extract i j) := fun k hk => by
  rw [ByteArray.size_extract] at hk
  obtain ⟨b, o, h1, h2, h3⟩ := h (i + k) (by omega)
  injection h1 with h1
  injection h1 with e1 e2 e3
  subst e1 e2
  refine ⟨g, i, rfl, h2, ?_⟩
  rw [Nat.zero_add] at h3
  rw [h3, ByteArray.getElem_extract]

set_option maxHeartbeats 16000000 in
theorem iFileSum (s : ScopeD) (a1 a2 a3 a4 : Option Addr) (w : World) (K : ScopeK s) (hr : ScopeR Any w a1 a2 a3 a4 s) :
    Calls Tryz.prog 16 #[.agg (scopeC s a1 a2 a3 a4 s.fImports.length s.fTypes.length s.fObjects.length s.fUses.length)] w fun e w' => e = .returned (.tuple #[.int .i64 (sumAns s), .bool (fileB s)]) ∧ Below w.heap.size w w' := by
  have B0 := Lib.hid ((Below.refl w.heap.size w).alloc (Nat.le_refl _) (.cells (scopeC s a1 a2 a3 a4 s.fImports.length s.fTypes.length s.fObjects.length s.fUses.length) 33))
  have X0 := Lib.hid (Box.new w 33 (scopeC s a1 a2 a3 a4 s.fImports.length s.fTypes.length s.fObjects.length s.fUses.length))
  have R0 := Lib.hid (hr.below B0.out)
  have HI := Lib.hid (fun W (hW : ScopeR Any W a1 a2 a3 a4 s) => iFileBytes s a1 a2 a3 a4 W K hW)
  clear hr K
  cases hq : fileB s
  · have HA := Lib.hid (show sumAns s = 0 by unfold sumAns; rw [hq]; rfl)
    have hb0 : fileAns s = ByteArray.empty := by unfold fileAns; rw [hq]; rfl
    rw [hq, hb0] at HI
    clear hb0
    go_enter Tryz.func16, Tryz.ntmps16
    obtain ⟨x0, x1, x2, x3, x4⟩ := box5 X0.out
    go_wp2_with fail
    refine (HI.out _ R0.out).mono ?_
    rintro e w1 ⟨rfl, hb⟩
    have B1 := Lib.hid (B0.out.trans (hb.mono B0.out.size))
    clear hb x0 x1 x2 x3 x4
    go_wp2_with fail
    go_ret2
    exact ⟨by rw [HA.out]; rfl, B1.out⟩
  · have HA := Lib.hid (show sumAns s = allZ (fileZ s) by unfold sumAns; rw [hq]; rfl)
    have hb0 : fileAns s = fileZ s := by unfold fileAns; rw [hq]; rfl
    have hsz : (fileZ s).size ≤ 3000 := by unfold fileB at hq; simp only [Bool.and_eq_true, decide_eq_true_eq] at hq; exact hq.2
    rw [hq, hb0] at HI
    clear hq hb0
    generalize fileZ s = b at *
    have Hz := Lib.hid (show allZ b = mixTo (sumsZ b ((b.size + 199) / 200)) (sumsZ b ((b.size + 199) / 200)).length from rfl)
    have HC := Lib.hid (show ∀ (f n g : Nat) (W : World), f < b.size → f % 200 = 0 → n = min (f + 200) b.size - f → Byts W (some ⟨g, 0, none⟩) b → Calls Tryz.prog 53 #[.slice (some ⟨g, f, none⟩) n n] W fun e w' => e = .returned (.tuple #[.int .i64 (textZ (chunkB b (f / 200))), .bool true]) ∧ Below W.heap.size W w' from fun f n g W h1 h2 h3 h4 => by
      have hf : 200 * (f / 200) = f := by omega
      have hc := chunk_size b (f / 200) (by omega)
      rw [hf] at hc
      have hn : n = (chunkB b (f / 200)).size := by rw [hc.2.2, h3]
      rw [hn]
      refine iMixedBytes (chunkB b (f / 200)) (some ⟨g, f, none⟩) _ W hc.1 ?_
      unfold chunkB
      rw [hf]
      exact h4.sub _ _ (Nat.min_le_right _ _))
    have Hnx := Lib.hid (sumsZ_next b)
    have Hl := Lib.hid (sumsZ_len b)
    generalize allZ b = z at *
    generalize sumsZ b = S at *
    have kb := bytesOf
    go_enter Tryz.func16, Tryz.ntmps16
    obtain ⟨x0, x1, x2, x3, x4⟩ := box5 X0.out
    go_wp2_with fail
    refine (HI.out _ R0.out).mono ?_
    rintro e w1 ⟨rfl, hb⟩
    have B1 := Lib.hid (B0.out.trans (hb.mono B0.out.size))
    clear hb x0 x1 x2 x3 x4 HI
    have HB := Lib.hid (show Byts (w1.alloc (.cells (bytesRow b (grownCap w1 b.size 0 5)) 5 ((bytesRow b (grownCap w1 b.size 0 5)).size, (bytesRow b (grownCap w1 b.size 0 5)).size + 1))).drew (some ⟨w1.heap.size, 0, none⟩) b from Byts.new w1.drew b _ _)
    have HW := Lib.hid (show Below w1.heap.size w1 (w1.alloc (.cells (bytesRow b (grownCap w1 b.size 0 5)) 5 ((bytesRow b (grownCap w1 b.size 0 5)).size, (bytesRow b (grownCap w1 b.size 0 5)).size + 1))).drew from belowN ((Below.refl w1.heap.size w1).alloc (Nat.le_refl _) (.cells (bytesRow b (grownCap w1 b.size 0 5)) 5 ((bytesRow b (grownCap w1 b.size 0 5)).size, (bytesRow b (grownCap w1 b.size 0 5)).size + 1))) 1)
    have hcap := grownCap_ge w1 b.size 0 5
    go_wp2_with fail
    obtain ⟨g, hg⟩ : ∃ g, g = w1.heap.size := ⟨_, rfl⟩
    have HG := Lib.hid hg
    have HBY := Lib.hid (show Byts _ (some ⟨g, 0, none⟩) b from hg ▸ HB.out)
    rw [← hg]
    generalize hcp : grownCap w1 b.size 0 5 = cp at *
    generalize (w1.alloc (.cells (bytesRow b cp) 5 ((bytesRow b cp).size, (bytesRow b cp).size + 1))).drew = w2 at *
    clear kb hg hcp HB
    go_loopw [7, 8] (fun v i wr => ∃ f : Nat, i = .int .i64 f ∧ f % 200 = 0 ∧ f < b.size + 200 ∧ OwnInts wr w2.heap.size v (S (f / 200)) ∧ Below w2.heap.size w2 wr) (fun _ i _ => b.size + 200 - (intOf i).toNat)
    case atStart => exact ⟨0, rfl, rfl, by omega, by have := Hl.out 0; rw [show 0 / 200 = 0 from rfl, List.length_eq_zero_iff.1 this]; exact OwnInts.nil, Below.refl _ _⟩
    case round =>
      obtain ⟨f, rfl, hf, hfb, hown, hbel⟩ := hrel
      have HO := Lib.hid hown
      have Hbel := Lib.hid hbel
      have hszb := hbel.size
      by_cases hlt : f < b.size
      · have hN := Lib.hid (Hnx.out (f / 200))
        have hbd : (S (f / 200)).length + 1 ≤ 1048577 + 1048576 := by rw [Hl.out]; omega
        have HBR := Lib.hid (HBY.out.below hbel)
        have hl2 : w2.heap.size ≤ w2.heap.size := Nat.le_refl _
        have iw : IntKind.i64.wrap ((f : Int) + 200) = (f : Int) + 200 := IntWalk.i64_in _ (by omega)
        clear hown hbel
        have HM := Lib.hid (HC.out f ((min ((f : Int) + 200) (b.size : Int)).toNat - f) g wr hlt hf (by omega) HBR.out)
        generalize textZ (chunkB b (f / 200)) = x at *
        go_wp2_with fail
        refine HM.out.mono ?_
        rintro e w3 ⟨rfl, hb3⟩
        have HO3 := Lib.hid (HO.out.below hb3)
        have Hb3 := Lib.hid (Hbel.out.trans (hb3.mono hszb))
        have hs3 := Hb3.out.size
        clear hb3 HM
        go_wp2_with (at_builtin; refine wpList_pushIntV rfl _ _ rfl w2.heap.size _ _ (S (f / 200)) rfl HO3.out _ _ rfl (by simp) hbd hs3 ?_)
        intro v4 w4 hown4 hg4 hlt4 hne4
        have Hb4 := Lib.hid (Hb3.out.grown hg4 hs3 (fun k hk => (hlt4 k hk).1))
        rw [← hN.out] at hown4
        have HO4 := Lib.hid hown4
        have hq1 : (f + 200) / 200 = f / 200 + 1 := by omega
        have HQ1 := Lib.hid hq1
        clear hg4 hlt4 hne4 hown4 hq1
        go_wp2_with fail
        exact ⟨⟨f + 200, by congr 1, by omega, by omega, by rw [HQ1.out]; exact HO4.out, Hb4.out⟩, by simp [intOf]; omega⟩
      · have hqe : f / 200 = (b.size + 199) / 200 := by omega
        rw [hqe] at HO
        obtain ⟨a, c, rfl, hc, hn⟩ := HO.out.nums
        have Hn := Lib.hid hn
        have hll : (S ((b.size + 199) / 200)).length ≤ 200 := by rw [Hl.out]; omega
        clear hn hown hbel
        go_wp2_with fail
        refine (iMixAll_in a c _ _ hll Hn.out.ints).mono ?_
        rintro e w' ⟨rfl, rfl⟩
        go_wp2_with fail
        go_ret2
        exact ⟨by rw [HA.out, Hz.out]; rfl, B1.out.trans ((HW.out.trans (Hbel.out.mono HW.out.size)).mono B1.out.size)⟩
-- shell: FnExactFileSum
set_option maxRecDepth 100000 in
set_option maxHeartbeats 8000000 in
theorem law_FnExactFileSum (s : ScopeD) (a1 a2 a3 a4 : Option Addr) (c1 c2 c3 c4 : Nat) (w : World) (hin : ScopeR Any w a1 a2 a3 a4 s ∧ s.came) :
    Calls Tryz.prog 5 #[.agg (scopeC s a1 a2 a3 a4 c1 c2 c3 c4)] w fun e w' => e = .returned (.bool true) ∧ Below w.heap.size w w' := by
  obtain ⟨hr, hc⟩ := hin
  have B0 := Lib.hid ((Below.refl w.heap.size w).alloc (Nat.le_refl _) (.cells (scopeC s a1 a2 a3 a4 c1 c2 c3 c4) 27))
  have X0 := Lib.hid (Box.new w 27 (scopeC s a1 a2 a3 a4 c1 c2 c3 c4))
  have R0 := Lib.hid (hr.below B0.out)
  have Hsz := Lib.hid (lSzScope s a1 a2 a3 a4 c1 c2 c3 c4 _ 1048576 (by omega) (by omega) hc R0.out)
  clear hr hc
  go_enter Tryz.func5, Tryz.ntmps5
  go_wp2_with fail
  refine Hsz.out.mono ?_
  rintro e w1 ⟨r, rfl, hs, hb1⟩
  have B1 := Lib.hid (B0.out.trans (hb1.mono B0.out.size))
  have X1 := Lib.hid (X0.out.below hb1 X0.out.lt)
  have R1 := Lib.hid (R0.out.below hb1)
  clear hb1 Hsz
  rcases hs with rfl | ⟨h0, h1⟩
  · go_wp2_with fail
    go_ret
    exact ⟨rfl, B1.out⟩
  have K := Lib.hid (ScopeK.of (s := s) (by omega))
  clear h1
  obtain ⟨x0, x1, x2, x3, x4⟩ := box5 X1.out
  go_wp2_with fail
  clear x0 x1 x2 x3 x4
  refine (lToScope s a1 a2 a3 a4 c1 c2 c3 c4 w1 K.out.li K.out.lt K.out.tw K.out.lo K.out.ow K.out.lu R1.out).mono ?_
  rintro e w2 ⟨p1, p2, p3, p4, rfl, hp, hb2⟩
  have B2 := Lib.hid (B1.out.trans (hb2.mono B1.out.size))
  have X2 := Lib.hid (X1.out.below hb2 X1.out.lt)
  have R2 := Lib.hid (R1.out.below hb2)
  have P2 := Lib.hid hp.any
  clear hb2 hp
  go_wp2_with fail
  refine (sFileSum s p1 p2 p3 p4 w2 K.out P2.out).mono ?_
  rintro e w3 ⟨rfl, hb3⟩
  have B3 := Lib.hid (B2.out.trans (hb3.mono B2.out.size))
  have X3 := Lib.hid (X2.out.below hb3 X2.out.lt)
  have R3 := Lib.hid (R2.out.below hb3)
  clear hb3 P2
  obtain ⟨x0, x1, x2, x3, x4⟩ := box5 X3.out
  go_wp2_with fail
  clear x0 x1 x2 x3 x4
  refine (lToScope s a1 a2 a3 a4 c1 c2 c3 c4 w3 K.out.li K.out.lt K.out.tw K.out.lo K.out.ow K.out.lu R3.out).mono ?_
  rintro e w4 ⟨q1, q2, q3, q4, rfl, hq, hb4⟩
  have B4 := Lib.hid ((B3.out.trans (hb4.mono B3.out.size)).alloc (B3.out.trans (hb4.mono B3.out.size)).size (.cells (scopeC s q1 q2 q3 q4 s.fImports.length s.fTypes.length s.fObjects.length s.fUses.length) 33))
  have X4 := Lib.hid ((X3.out.below hb4 X3.out.lt).alloc (.cells (scopeC s q1 q2 q3 q4 s.fImports.length s.fTypes.length s.fObjects.length s.fUses.length) 33))
  have Y4 := Lib.hid (Box.new w4 33 (scopeC s q1 q2 q3 q4 s.fImports.length s.fTypes.length s.fObjects.length s.fUses.length))
  have hal := (Below.refl w4.heap.size w4).alloc (Nat.le_refl _) (.cells (scopeC s q1 q2 q3 q4 s.fImports.length s.fTypes.length s.fObjects.length s.fUses.length) 33)
  have R4 := Lib.hid ((R3.out.below hb4).below hal)
  have Q4 := Lib.hid (hq.any.below hal)
  have hgo := iFileSum s q1 q2 q3 q4 _ K.out Q4.out
  have Hgo := Lib.hid hgo
  clear hb4 hq hal hgo
  go_wp2_with fail
  refine Hgo.out.mono ?_
  rintro e w5 ⟨rfl, hb5⟩
  have B5 := Lib.hid (B4.out.trans (hb5.mono B4.out.size))
  have X5 := Lib.hid (X4.out.below hb5 X4.out.lt)
  have Y5 := Lib.hid (Y4.out.below hb5 Y4.out.lt)
  have R5 := Lib.hid (R4.out.below hb5).drew
  have Q5 := Lib.hid (Q4.out.below hb5).drew
  have g5 := Nat.lt_of_lt_of_le Y4.out.lt hb5.size
  have l5 := Nat.lt_of_lt_of_le X4.out.lt hb5.size
  clear hb5 Hgo
  generalize hgg : w4.heap.size = g at *
  have Hgg := Lib.hid hgg
  clear hgg
  generalize sumAns s = vs at *
  generalize fileB s = v at *
  cases v
  all_goals
    obtain ⟨x0, x1, x2, x3, x4⟩ := box5 X5.out
    obtain ⟨y0, y1, y2, y3, y4⟩ := box5 Y5.out
    go_wp2_with fail
    go_region_held3 (fun w' => w'.cell? ⟨w.heap.size, 0, none⟩ = some (.string s.fName) ∧ w'.cell? ⟨w.heap.size, 1, none⟩ = some (.slice a1 s.fImports.length c1) ∧ w'.cell? ⟨w.heap.size, 2, none⟩ = some (.slice a2 s.fTypes.length c2) ∧ w'.cell? ⟨w.heap.size, 3, none⟩ = some (.slice a3 s.fObjects.length c3) ∧ w'.cell? ⟨w.heap.size, 4, none⟩ = some (.slice a4 s.fUses.length c4) ∧ w'.cell? ⟨g, 0, none⟩ = some (.string s.fName) ∧ w'.cell? ⟨g, 1, none⟩ = some (.slice q1 s.fImports.length s.fImports.length) ∧ w'.cell? ⟨g, 2, none⟩ = some (.slice q2 s.fTypes.length s.fTypes.length) ∧ w'.cell? ⟨g, 3, none⟩ = some (.slice q3 s.fObjects.length s.fObjects.length) ∧ w'.cell? ⟨g, 4, none⟩ = some (.slice q4 s.fUses.length s.fUses.length))
      (first
        | exact ⟨x0, x1, x2, x3, x4, y0, y1, y2, y3, y4⟩
        | go_keep
        | (go_split_ands
           refine ⟨?_, ?_, ?_, ?_, ?_, ?_, ?_, ?_, ?_, ?_⟩ <;> (rw [hbu.cell (by simp at *; omega)]; assumption))
        | (go_split_ands
           refine ⟨?_, ?_, ?_, ?_, ?_, ?_, ?_, ?_, ?_, ?_⟩ <;> (rw [hbt.cell (by simp at *; omega)]; assumption)))
      (first
        | (go_at_call 8; refine (lToScope s a1 a2 a3 a4 c1 c2 c3 c4 _ K.out.li K.out.lt K.out.tw K.out.lo K.out.ow K.out.lu R5.out).mono ?_; rintro e wt ⟨t1, t2, t3, t4, rfl, ht, hbt⟩; have hsz := hbt.size)
        | (go_at_call 10; refine (lEqScope s q1 q2 q3 q4 t1 t2 t3 t4 _ _ _ _ _ _ _ _ _ K.out.li K.out.lt K.out.tw K.out.lo K.out.ow K.out.lu (Q5.out.below hbt) ht.any).mono ?_; rintro e wu ⟨rfl, hbu⟩))
    have B6 := Lib.hid ((belowN B5.out 1).trans ((hbt.trans (hbu.mono hbt.size)).mono (belowN B5.out 1).size))
    clear x0 x1 x2 x3 x4 y0 y1 y2 y3 y4
    go_wp2_with fail
    go_ret
    exact ⟨rfl, B6.out⟩
end Go.Proofs.YtaccifjkeblhpaaGreat
