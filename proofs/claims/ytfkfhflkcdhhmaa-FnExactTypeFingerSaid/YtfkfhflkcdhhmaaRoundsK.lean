
/-
  What is proved: the contract of the program's sumsBehind. No condition beside what the theorem states.
-/
import Derived.Test.YtfkfhflkcdhhmaaRoundsJ
namespace Go.Proofs.Ytfkfhflkcdhhmaa
open Go.ChangeShapes Go.WideShapes Go.ChangeAt Go.RowKit
set_option maxRecDepth 100000

theorem infoPart : (Try.prog.info? 141).map (fun i => (i.zero, i.size, i.bytes)) = some (some (.agg #[.int .i64 0, .int .i64 0, .int .i64 0, .slice none 0 0, .string ByteArray.empty, .string ByteArray.empty, .int .i64 0, .slice none 0 0]), 8, 112) := by kernel_rfl
theorem namesZ_len (t : TypeD) : (namesZ t).length = t.fFields.length := by simp [namesZ]
theorem OwnInts.rowsI {w : World} {B : Nat} {v : Value} {l : List Int} (h : OwnInts w B v l) : ∃ a c, v = .slice a l.length c ∧ Rows intS (fun q => B ≤ q) w a l := by
  obtain ⟨a, c, e, _, hn⟩ := h.nums
  refine ⟨a, c, e, fun i hi => ?_⟩
  obtain ⟨b, o, e2, h1, h2⟩ := hn i hi
  subst e2
  have hb : B ≤ b := by
    rcases h.2 with ⟨h0, _⟩ | ⟨g, cap, cur, h0, hg, _⟩
    · rw [h0] at e; cases e
    · rw [h0] at e; cases e; exact hg
  refine ⟨b, o, [.int .i64 l[i]], rfl, hb, h1, fun j hj => ?_, rfl⟩
  have hn1 : intS.n = 1 := rfl
  obtain rfl : j = 0 := by omega
  rw [hn1, Nat.mul_one, Nat.add_zero, h2]
  rfl
/-- append of one number to a row of numbers, with where the new row lies. -/
theorem wpList_pushIntG {ops : Array Oper} {rest : List Oper} {o : Oper} {a : Act} {Q : Exit → Act → World → Prop} (hgd : o.guard = none) (s x : Operand)
    (ho : o.op = .call { callee := .builtin .append, args := #[s, x], argTypes := #[38, 38] })
    (B : Nat) (w : World) (v : Value) (l : List Int) (hs : a.eval s = v) (hown : OwnInts w B v l) (u : Int) (g c : Nat) (hx : a.eval x = .slice (some ⟨g, 0, none⟩) 1 c) (hg : Box w g 3 #[.int .i64 u])
    (h63 : l.length + 1 ≤ 1048577 + 1048576) (hbase : B ≤ w.heap.size)
    (h : ∀ v' w', OwnInts w' B v' (l ++ [u]) → w.grownBy w' v.ownBlock → (v'.ownBlock = v.ownBlock ∨ v'.ownBlock = some w.heap.size) → wpList Try.prog ops Q rest (a.put o.dst v') w') : wpList Try.prog ops Q (o :: rest) a w := by
  obtain ⟨i0, hi, hz0, hz1, hz2⟩ := info_parts infoInt
  refine wpList_append_own_at _ hgd s x 38 ho B 3 i0 (.int .i64 0) 1 8 Try.underlying38 hi hz0 hz1 hz2 rfl (by decide) v l.length (l.map (Value.int .i64)) hs hown ⟨g, 0, none⟩ 1 c [.int .i64 u] hx rfl ?_
    (fun y hy => by rw [List.mem_singleton.1 hy]; rfl) (by unfold maxLen; omega) (by omega) hbase (fun v' w' h1 h2 _ h4 => h v' w' (by unfold OwnInts; rw [List.map_append, List.length_append]; exact h1) h2 h4)
  intro j y hj
  have e : (⟨g, 0, none⟩ : Addr).add j = ⟨g, j, none⟩ := by unfold Addr.add; split <;> simp_all
  rw [e, hg.cell]
  simpa using hj

set_option maxHeartbeats 16000000 in
theorem iSumsBehind (a : Option Addr) (c : Nat) (l : List TypeD) (r : Nat) (w : World) (hl : l.length ≤ 24) (hrt : ∀ n (h : n < l.length), RT l.length l[n]) (hrn : r ≤ 25) (hr : Rows typeS Any w a l) :
    Calls Try.prog 82 #[.slice a l.length c, .int .i64 (r : Int)] w fun e w' => ∃ v, e = .returned v ∧ OwnInts w' w.heap.size v (roundsZ l r) ∧ Below w.heap.size w w' := by
  have Hr := Lib.hid hr
  have Hrt := Lib.hid hrt
  clear hr hrt
  go_enter Try.func82, Try.ntmps82
  go_wp2_with fail
  go_loopw [5, 6, 15] (fun p s i wr => ∃ k : Nat, i = .int .i64 k ∧ k ≤ l.length ∧ OwnG partS 141 w.heap.size (fun q => s.ownBlock ≠ some q) wr p (l.take k) ∧ OwnInts wr w.heap.size s ((firstsZ l).take k) ∧ (∀ q, p.ownBlock = some q → s.ownBlock ≠ some q) ∧ Below w.heap.size w wr) (fun _ _ i _ => l.length - (intOf i).toNat)
  case atStart => exact ⟨0, rfl, by omega, OwnG.nil, OwnInts.nil, fun q h => by simp [Value.ownBlock] at h, Below.refl _ _⟩
  case round =>
    obtain ⟨V5, hV5⟩ : ∃ x, x = u5 := ⟨_, rfl⟩
    subst hV5
    obtain ⟨V6, hV6⟩ : ∃ x, x = u6 := ⟨_, rfl⟩
    subst hV6
    obtain ⟨k, rfl, hk, hown, hint, hap, hbel⟩ := hrel
    by_cases hlt : k < l.length
    · have hT := Hrt.out k hlt
      obtain ⟨b, o, cs, hba, _, hb1, hc1, hat⟩ := Hr.out k hlt
      obtain ⟨a3, c3, rfl, hrf, hfc⟩ := hat
      subst hba
      have e0 := (hbel.cell (p := ⟨b, o + k * 6 + 0, none⟩) hb1).trans (hc1 0 (by decide))
      have e1 := (hbel.cell (p := ⟨b, o + k * 6 + 1, none⟩) hb1).trans (hc1 1 (by decide))
      have e2 := (hbel.cell (p := ⟨b, o + k * 6 + 2, none⟩) hb1).trans (hc1 2 (by decide))
      have e3 := (hbel.cell (p := ⟨b, o + k * 6 + 3, none⟩) hb1).trans (hc1 3 (by decide))
      have e4 := (hbel.cell (p := ⟨b, o + k * 6 + 4, none⟩) hb1).trans (hc1 4 (by decide))
      have e5 := (hbel.cell (p := ⟨b, o + k * 6 + 5, none⟩) hb1).trans (hc1 5 (by decide))
      simp at e0 e1 e2 e3 e4 e5
      have hpl := OwnG.lt hown
      have hsl := World.ownsRow.lt hint
      have hsz := hbel.size
      have P0 := Lib.hid hown
      have S0 := Lib.hid hint
      have A0 := Lib.hid hap
      have B0 := Lib.hid hbel
      have RF := Lib.hid (show Rows fieldS (fun q => q < w.heap.size) w a3 l[k].fFields from hrf.mono (fun q _ h => h))
      have Hnx := Lib.hid (map_next firstZ hlt)
      have Htk := Lib.hid (show l.take (k + 1) = l.take k ++ [l[k]] from List.take_succ_eq_append_getElem hlt)
      have HP := Lib.hid (fun W (h : Rows fieldS Any W a3 l[k].fFields) => iRoundPartOf l[k] l.length a3 c3 W hT h)
      have Hnl := Lib.hid (namesZ_len l[k])
      clear hown hint hap hbel hrf hfc hT hc1
      generalize l[k] = t at *
      have Bq := Lib.hid (B0.out.alloc hsz (.cells #[.int .i64 t.fKind, .int .i64 t.fLong, .int .i64 t.fBase, .slice a3 t.fFields.length c3, .string t.fOwner, .string t.fName] 32))
      have Pq := Lib.hid (P0.out.alloc (.cells #[.int .i64 t.fKind, .int .i64 t.fLong, .int .i64 t.fBase, .slice a3 t.fFields.length c3, .string t.fOwner, .string t.fName] 32))
      have Sq := Lib.hid (S0.out.alloc (.cells #[.int .i64 t.fKind, .int .i64 t.fLong, .int .i64 t.fBase, .slice a3 t.fFields.length c3, .string t.fOwner, .string t.fName] 32))
      have hq0 : wr.heap.size < (wr.alloc (.cells #[.int .i64 t.fKind, .int .i64 t.fLong, .int .i64 t.fBase, .slice a3 t.fFields.length c3, .string t.fOwner, .string t.fName] 32)).heap.size := by simp
      clear B0 P0 S0
      go_wp2_with fail
      generalize (wr.alloc (.cells #[.int .i64 t.fKind, .int .i64 t.fLong, .int .i64 t.fBase, .slice a3 t.fFields.length c3, .string t.fOwner, .string t.fName] 32)) = wq at *
      refine (HP.out _ ((RF.out.keep (fun q h _ => Bq.out.block q h) Bq.out.size).any)).mono ?_
      rintro e w1 ⟨nv, rfl, hnv, hb1'⟩
      obtain ⟨na, nc, hnve, hnr⟩ := hnv.rowsI
      rw [Hnl.out] at hnve
      subst hnve
      have NR := Lib.hid hnr
      have P1 := Lib.hid (Pq.out.below hb1')
      have S1 := Lib.hid (Sq.out.below hb1')
      have B1 := Lib.hid (Bq.out.trans (hb1'.mono Bq.out.size))
      have hs1 := B1.out.size
      have hq1 := hb1'.size
      have RF1 := Lib.hid (RF.out.keep (fun q h _ => B1.out.block q h) B1.out.size)
      clear hnv hnr hb1' Pq Sq Bq HP RF
      have hsl2 : ∀ q, V6.ownBlock = some q → q < w1.heap.size := fun q h => by have := (hsl q h).2; omega
      have hpl2 : ∀ q, V5.ownBlock = some q → q < w1.heap.size := fun q h => by have := (hpl q h).2; omega
      have X1 := Lib.hid (Box.new w1 141 #[.int .i64 t.fKind, .int .i64 t.fLong, .int .i64 t.fBase, .slice a3 t.fFields.length c3, .string t.fOwner, .string t.fName, .int .i64 (firstZ t), .slice na t.fFields.length nc])
      have X2 := Lib.hid (X1.out.alloc (.cells #[.int .i64 t.fKind, .int .i64 t.fLong, .int .i64 t.fBase, .slice a3 t.fFields.length c3, .string t.fOwner, .string t.fName, .int .i64 (firstZ t), .slice na t.fFields.length nc] 141))
      have Y2 := Lib.hid (Box.new' (g := w1.heap.size + 1) (w1.alloc (.cells #[.int .i64 t.fKind, .int .i64 t.fLong, .int .i64 t.fBase, .slice a3 t.fFields.length c3, .string t.fOwner, .string t.fName, .int .i64 (firstZ t), .slice na t.fFields.length nc] 141)) 141 #[.int .i64 t.fKind, .int .i64 t.fLong, .int .i64 t.fBase, .slice a3 t.fFields.length c3, .string t.fOwner, .string t.fName, .int .i64 (firstZ t), .slice na t.fFields.length nc] (by simp))
      have P2 := Lib.hid ((P1.out.alloc (.cells #[.int .i64 t.fKind, .int .i64 t.fLong, .int .i64 t.fBase, .slice a3 t.fFields.length c3, .string t.fOwner, .string t.fName, .int .i64 (firstZ t), .slice na t.fFields.length nc] 141)).alloc (.cells #[.int .i64 t.fKind, .int .i64 t.fLong, .int .i64 t.fBase, .slice a3 t.fFields.length c3, .string t.fOwner, .string t.fName, .int .i64 (firstZ t), .slice na t.fFields.length nc] 141))
      have S2 := Lib.hid ((S1.out.alloc (.cells #[.int .i64 t.fKind, .int .i64 t.fLong, .int .i64 t.fBase, .slice a3 t.fFields.length c3, .string t.fOwner, .string t.fName, .int .i64 (firstZ t), .slice na t.fFields.length nc] 141)).alloc (.cells #[.int .i64 t.fKind, .int .i64 t.fLong, .int .i64 t.fBase, .slice a3 t.fFields.length c3, .string t.fOwner, .string t.fName, .int .i64 (firstZ t), .slice na t.fFields.length nc] 141))
      have B12 := Lib.hid (((Below.refl w1.heap.size w1).alloc (Nat.le_refl _) (.cells #[.int .i64 t.fKind, .int .i64 t.fLong, .int .i64 t.fBase, .slice a3 t.fFields.length c3, .string t.fOwner, .string t.fName, .int .i64 (firstZ t), .slice na t.fFields.length nc] 141)).alloc (by simp) (.cells #[.int .i64 t.fKind, .int .i64 t.fLong, .int .i64 t.fBase, .slice a3 t.fFields.length c3, .string t.fOwner, .string t.fName, .int .i64 (firstZ t), .slice na t.fFields.length nc] 141))
      have B2 := Lib.hid (B1.out.trans (B12.out.mono hs1))
      have hAt : partS.At (fun q => V6.ownBlock ≠ some q ∧ V5.ownBlock ≠ some q) ((w1.alloc (.cells #[.int .i64 t.fKind, .int .i64 t.fLong, .int .i64 t.fBase, .slice a3 t.fFields.length c3, .string t.fOwner, .string t.fName, .int .i64 (firstZ t), .slice na t.fFields.length nc] 141)).alloc (.cells #[.int .i64 t.fKind, .int .i64 t.fLong, .int .i64 t.fBase, .slice a3 t.fFields.length c3, .string t.fOwner, .string t.fName, .int .i64 (firstZ t), .slice na t.fFields.length nc] 141)) [.int .i64 t.fKind, .int .i64 t.fLong, .int .i64 t.fBase, .slice a3 t.fFields.length c3, .string t.fOwner, .string t.fName, .int .i64 (firstZ t), .slice na t.fFields.length nc] t :=
        ⟨a3, c3, na, nc, rfl, (RF1.out.below B12.out).mono (fun q hq _ => ⟨fun e => by have := (hsl q e).1; omega, fun e => by have := (hpl q e).1; omega⟩), (NR.out.below B12.out).mono (fun q hq _ => ⟨fun e => by have := (hsl q e).2; omega, fun e => by have := (hpl q e).2; omega⟩)⟩
      have HAt := Lib.hid hAt
      clear hAt NR RF1 P1 S1 B1
      obtain ⟨i0, hi, hz0, hz1, hz2⟩ := info_parts infoPart
      have Hi := Lib.hid (And.intro hi (And.intro hz0 (And.intro hz1 hz2)))
      clear hi hz0 hz1 hz2
      have hlk : (l.take k).length ≤ 24 := by rw [List.length_take]; omega
      have hlf : ((firstsZ l).take k).length ≤ 24 := by rw [List.length_take]; omega
      go_wp2_with (at_builtin; refine wpList_pushG rfl _ _ _ rfl partS 141 i0 (.agg #[.int .i64 0, .int .i64 0, .int .i64 0, .slice none 0 0, .string ByteArray.empty, .string ByteArray.empty, .int .i64 0, .slice none 0 0]) 112 Try.underlying139 ?q1 ?q2 ?q3 ?q4 rfl (by decide) (by omega) w.heap.size (fun q => V6.ownBlock ≠ some q) _ _ (l.take k) rfl ?q5 t [.int .i64 t.fKind, .int .i64 t.fLong, .int .i64 t.fBase, .slice a3 t.fFields.length c3, .string t.fOwner, .string t.fName, .int .i64 (firstZ t), .slice na t.fFields.length nc] _ _ rfl ?q6 ?q7 ?q8 ?q9 ?q10 ?_)
      case q1 => exact Hi.out.1
      case q2 => exact Hi.out.2.1
      case q3 => exact Hi.out.2.2.1
      case q4 => exact Hi.out.2.2.2
      case q5 => exact P2.out
      case q6 => exact fun j _ => (Y2.out.cell j).trans (by simp)
      case q7 => exact HAt.out
      case q8 =>
        intro y hy
        simp only [List.mem_cons, List.not_mem_nil, or_false] at hy
        rcases hy with rfl | rfl | rfl | rfl | rfl | rfl | rfl | rfl <;> rfl
      case q9 => omega
      case q10 => exact B2.out.size
      intro p4 w4 hown4 hg4 hfr4
      have hs2 := B2.out.size
      have B4 := Lib.hid (B2.out.grown hg4 hs2 (fun k hk => (hpl k hk).1))
      have S4 := Lib.hid (S2.out.keep (fun q hq => hg4.block q (World.ownsRow.lt S2.out q hq).2 (fun e => A0.out q e.symm hq)))
      have X4 := Lib.hid (box_grown X2.out hg4 (fun q hq => Nat.ne_of_lt (hpl2 q hq)))
      have P4 := Lib.hid hown4
      have A4 := Lib.hid (show ∀ q, p4.ownBlock = some q → V6.ownBlock ≠ some q from fun q hq hv => by
        rcases hfr4 with h | h
        · exact A0.out q (h ▸ hq) hv
        · rw [h] at hq
          injection hq with hq
          have := hsl2 q hv
          omega)
      have hp4 := OwnG.lt hown4
      have hs4 := B4.out.size
      have hsl4 : ∀ q, V6.ownBlock = some q → w.heap.size ≤ q ∧ q < w4.heap.size := World.ownsRow.lt S4.out
      obtain ⟨x0, x1, x2, x3, x4, x5, x6, x7⟩ := box8 X4.out
      clear hown4 hg4 hfr4 P2 S2 X1 X2 Y2 B2 B12 HAt
      go_wp2_with (at_builtin; refine wpList_pushIntG rfl _ _ rfl w.heap.size _ _ ((firstsZ l).take k) rfl ?q1 (firstZ t) _ _ rfl ?q2 ?q3 ?q4 ?_)
      case q1 => exact S4.out.alloc _
      case q2 => exact Box.new _ _ _
      case q3 => omega
      case q4 => simp; omega
      intro s5 w5 hown5 hg5 hfr5
      have O5 := Lib.hid (show OwnInts w5 w.heap.size s5 ((firstsZ l).take (k + 1)) by rw [show firstsZ l = l.map firstZ from rfl, Hnx.out]; exact hown5)
      have B5 := Lib.hid ((B4.out.alloc hs4 (.cells #[.int .i64 (firstZ t)] 3)).grown hg5 (by simp; omega) (fun k hk => (hsl4 k hk).1))
      have P5 := Lib.hid (show OwnG partS 141 w.heap.size (fun q => s5.ownBlock ≠ some q) w5 p4 (l.take (k + 1)) by
        rw [Htk.out]
        have hk0 := (P4.out.alloc (.cells #[.int .i64 (firstZ t)] 3)).mono (P' := fun q => V6.ownBlock ≠ some q ∧ s5.ownBlock ≠ some q) (fun q hq hl => ⟨hq, fun e => by
          rcases hfr5 with h | h
          · exact hq (h ▸ e)
          · rw [h] at e
            injection e with e
            simp at hl
            omega⟩)
        exact (hk0.keep (w' := w5) (fun q hq hl => hg5.block q hl (fun e => by
          rcases hq with h | h
          · exact h.1 e.symm
          · exact A4.out q h e.symm)) hg5.size).mono (fun q hq _ => hq.2))
      have A5 := Lib.hid (show ∀ q, p4.ownBlock = some q → s5.ownBlock ≠ some q from fun q hq hv => by
        rcases hfr5 with h | h
        · exact A4.out q hq (h ▸ hv)
        · rw [h] at hv
          injection hv with hv
          have := (hp4 q hq).2
          omega)
      clear hown5 hg5 hfr5 P4 S4 X4 A4 B4 x0 x1 x2 x3 x4 x5 x6 x7
      go_wp2_with fail
      exact ⟨⟨k + 1, by congr 1, by omega, P5.out, O5.out, A5.out, B5.out⟩, by simp [intOf]; omega⟩
    · have hpa := hown
      rw [List.take_of_length_le (show l.length ≤ k by omega)] at hpa
      obtain ⟨pa, pc, rfl, hpc, _, hpr⟩ := hpa.rows (Q := Any) (fun _ _ _ => trivial) (fun _ _ => trivial)
      have S1 := Lib.hid (show OwnInts wr w.heap.size V6 (firstsZ l) by have h := hint; rw [show (firstsZ l).take k = firstsZ l from map_all firstZ hlt] at h; exact h)
      have PR := Lib.hid hpr
      have B1 := Lib.hid hbel
      have hs1 := hbel.size
      obtain ⟨w1, hw1⟩ : ∃ y, y = wr := ⟨_, rfl⟩
      subst hw1
      clear hown hint hap hbel hpa hpr
      go_wp2_with fail
      go_loopw [6, 32] (fun v i wr => ∃ j : Nat, i = .int .i64 j ∧ j ≤ r ∧ OwnInts wr w.heap.size v (roundsZ l j) ∧ Below w1.heap.size w1 wr) (fun _ i _ => r - (intOf i).toNat)
      case atStart => exact ⟨0, rfl, by omega, S1.out, Below.refl _ _⟩
      case round =>
        obtain ⟨wo, hwo⟩ : ∃ y, y = wr := ⟨_, rfl⟩
        subst hwo
        obtain ⟨V7, hV7⟩ : ∃ x, x = u6 := ⟨_, rfl⟩
        subst hV7
        obtain ⟨j, rfl, hj, hown, hbel⟩ := hrel
        by_cases hjr : j < r
        · obtain ⟨na, nc, rfl, hnc, hnn⟩ := hown.nums
          have hal := roundsZ_len l j
          have Hstep := Lib.hid (show roundsZ l (j + 1) = l.map (behindZ (roundsZ l j)) from rfl)
          have HA := Lib.hid hnn
          have HBo := Lib.hid hbel
          have hso := hbel.size
          clear hown hbel hnn
          generalize roundsZ l j = ah at *
          have Hal := Lib.hid hal
          clear hal
          go_wp2_with fail
          go_loopw [6, 37] (fun v i wr => ∃ k : Nat, i = .int .i64 k ∧ k ≤ l.length ∧ OwnInts wr wo.heap.size v ((l.map (behindZ ah)).take k) ∧ Below wo.heap.size wo wr) (fun _ i _ => l.length - (intOf i).toNat)
          case atStart => exact ⟨0, rfl, by omega, OwnInts.nil, Below.refl _ _⟩
          case round =>
            obtain ⟨wp, hwp⟩ : ∃ y, y = wr := ⟨_, rfl⟩
            subst hwp
            obtain ⟨V8, hV8⟩ : ∃ x, x = u6 := ⟨_, rfl⟩
            subst hV8
            obtain ⟨q, rfl, hq, hown, hbel⟩ := hrel
            by_cases hlq : q < l.length
            · have hT := Hrt.out q hlq
              obtain ⟨b, o, cs, hba, _, hb1, hc1, hat⟩ := PR.out q hlq
              obtain ⟨a3, c3, an, cn, rfl, hrf, hrn2⟩ := hat
              subst hba
              have hbb := HBo.out.trans (hbel.mono hso)
              have e0 := (hbb.cell (p := ⟨b, o + q * 8 + 0, none⟩) hb1).trans (hc1 0 (by decide))
              have e1 := (hbb.cell (p := ⟨b, o + q * 8 + 1, none⟩) hb1).trans (hc1 1 (by decide))
              have e2 := (hbb.cell (p := ⟨b, o + q * 8 + 2, none⟩) hb1).trans (hc1 2 (by decide))
              have e3 := (hbb.cell (p := ⟨b, o + q * 8 + 3, none⟩) hb1).trans (hc1 3 (by decide))
              have e4 := (hbb.cell (p := ⟨b, o + q * 8 + 4, none⟩) hb1).trans (hc1 4 (by decide))
              have e5 := (hbb.cell (p := ⟨b, o + q * 8 + 5, none⟩) hb1).trans (hc1 5 (by decide))
              have e6 := (hbb.cell (p := ⟨b, o + q * 8 + 6, none⟩) hb1).trans (hc1 6 (by decide))
              have e7 := (hbb.cell (p := ⟨b, o + q * 8 + 7, none⟩) hb1).trans (hc1 7 (by decide))
              simp at e0 e1 e2 e3 e4 e5 e6 e7
              have HS := Lib.hid (fun W (h1 : Rows fieldS Any W a3 l[q].fFields) (h2 : Nums W an (namesZ l[q])) (h3 : Nums W na ah) => iSumBehind ah na nc l[q] a3 c3 an cn W (by rw [Hal.out]; exact hT) h1 h2 h3)
              have RF := Lib.hid (hrf.below hbb)
              have RN := Lib.hid (rows_nums (hrn2.below hbb))
              have RA := Lib.hid (HA.out.below hbel)
              have hvl := World.ownsRow.lt hown
              have hsp := hbel.size
              have O0 := Lib.hid hown
              have G0 := Lib.hid hbel
              have Hnx := Lib.hid (map_next (behindZ ah) hlq)
              have hlk : ((l.map (behindZ ah)).take q).length ≤ 24 := by rw [List.length_take]; omega
              clear hown hbel hrf hrn2 hT hc1 hbb
              generalize l[q] = t at *
              obtain ⟨ob, hob⟩ : ∃ ob : Obj, ob = .cells #[.int .i64 t.fKind, .int .i64 t.fLong, .int .i64 t.fBase, .slice a3 t.fFields.length c3, .string t.fOwner, .string t.fName, .int .i64 (firstZ t), .slice an t.fFields.length cn] 141 := ⟨_, rfl⟩
              have BA := Lib.hid ((Below.refl wp.heap.size wp).alloc (Nat.le_refl _) ob)
              have OA := Lib.hid (O0.out.alloc ob)
              have GA := Lib.hid (G0.out.alloc hsp ob)
              rw [hob] at BA OA GA
              clear hob O0 G0
              go_wp2_with fail
              refine (HS.out _ (RF.out.below BA.out) (RN.out.below BA.out) (RA.out.below BA.out)).mono ?_
              rintro e w5 ⟨rfl, hb5⟩
              have O5 := Lib.hid (OA.out.below hb5)
              have G5 := Lib.hid (GA.out.trans (hb5.mono GA.out.size))
              have hs5 := G5.out.size
              clear hb5 HS RF RN RA BA OA GA
              go_wp2_with (at_builtin; refine wpList_pushInt rfl _ _ rfl wo.heap.size _ _ ((l.map (behindZ ah)).take q) rfl O5.out _ _ rfl rfl ?c1 hs5 ?_)
              case c1 => omega
              intro v' w6 hown6 hg6 hlt6
              have B6 := Lib.hid (G5.out.grown hg6 hs5 (fun k hk => (hlt6 k hk).1))
              have O6 := Lib.hid (show OwnInts w6 wo.heap.size v' ((l.map (behindZ ah)).take (q + 1)) by rw [Hnx.out]; exact hown6)
              clear hown6 hg6 hlt6
              go_wp2_with fail
              exact ⟨⟨q + 1, by congr 1, by omega, O6.out, B6.out⟩, by simp [intOf]; omega⟩
            · have Ho := Lib.hid (show OwnInts wp w.heap.size V8 (roundsZ l (j + 1)) by have h := hown; rw [map_all (behindZ ah) hlq] at h; rw [Hstep.out]; exact h.lower (Nat.le_trans hs1 hso))
              have Bw := Lib.hid (HBo.out.trans (hbel.mono hso))
              clear hown hbel
              go_wp2_with fail
              exact ⟨⟨j + 1, by congr 1, by omega, Ho.out, Bw.out⟩, by simp [intOf]; omega⟩
        · obtain rfl : j = r := by omega
          have Ho := Lib.hid hown
          have Bw := Lib.hid (B1.out.trans (hbel.mono hs1))
          clear hown hbel
          go_wp2_with fail
          go_ret
          exact ⟨_, rfl, Ho.out, Bw.out⟩
end Go.Proofs.Ytfkfhflkcdhhmaa
