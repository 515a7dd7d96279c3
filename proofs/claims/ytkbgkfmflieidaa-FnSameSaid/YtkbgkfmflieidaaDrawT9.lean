
/-
  What is proved: the contracts of the model's l3OwnT and of its draw of two tables of types. No condition beside what each theorem states.
-/
import Derived.Test.YtkbgkfmflieidaaAppF
import Derived.Test.YtkbgkfmflieidaaDrawT8
import Derived.Test.YtkbgkfmflieidaaIGood
namespace Go.Proofs.Ytkbgkfmflieidaa
open Go.ChangeShapes Go.WideShapes Go.ChangeAt Go.RowKit
set_option maxRecDepth 100000

theorem box6s {w : World} {g : Nat} {t : TypeId} {c0 c1 c2 c3 c4 c5 : Value} (h : Box w g t #[c0, c1, c2, c3, c4, c5]) : w.cell? ⟨g, 0, none⟩ = some c0 ∧ w.cell? ⟨g, 1, none⟩ = some c1 ∧ w.cell? ⟨g, 2, none⟩ = some c2 ∧ w.cell? ⟨g, 3, none⟩ = some c3 ∧ w.cell? ⟨g, 4, none⟩ = some c4 ∧ w.cell? ⟨g, 5, none⟩ = some c5 := ⟨h.cell 0, h.cell 1, h.cell 2, h.cell 3, h.cell 4, h.cell 5⟩
theorem thaw_own {w : World} {B : Nat} {a : Option Addr} {n c : Nat} {fs : List FieldD} (h : OwnG fieldS 58 B Nowhere w (.slice a n c) fs) : thawZ w a fs.length := by
  intro hn b o i e
  rcases h with ⟨h1, h2⟩ | ⟨b', cap, cur, hv, _, hb, _⟩
  · subst h2; exact absurd hn (by simp)
  · injection hv with hv
    rw [e] at hv
    injection hv with hv
    injection hv with hv
    subst hv
    exact Box.free hb i
set_option maxHeartbeats 16000000 in
theorem sOwnT (a : Option Addr) (c : Nat) (l : List TypeD) (w : World) (hl : l.length ≤ 24) (hs : ∀ t ∈ l, shortT t) (hr : Rows typeS Any w a l) :
    Calls Try.prog 31 #[.slice a l.length c] w fun e w' => ∃ v, e = .returned v ∧ OwnG typeZ 56 w.heap.size (fun q => w.heap.size ≤ q) w' v l ∧ Below w.heap.size w w' := by
  have Hr := Lib.hid hr
  have Hs := Lib.hid hs
  clear hr hs
  obtain ⟨i0, hi, hz0, hz1, hz2⟩ := info_parts infoType
  have Hi := Lib.hid (And.intro hi (And.intro hz0 (And.intro hz1 hz2)))
  clear hi hz0 hz1 hz2
  go_enter Try.func31, Try.ntmps31
  go_wp2_with fail
  go_loopw [8, 3] (fun i x wr => ∃ (k : Nat) (v : Value), i = .int .i64 k ∧ x = v ∧ k ≤ l.length ∧ OwnG typeZ 56 w.heap.size (fun q => w.heap.size ≤ q) wr v (l.take k) ∧ Below w.heap.size w wr) (fun i _ _ => l.length - (intOf i).toNat)
  case atStart => exact ⟨0, _, rfl, rfl, by omega, by rw [List.take_zero]; exact OwnG.nil, Below.refl _ _⟩
  case round =>
    obtain ⟨V, hV⟩ : ∃ x, x = u3 := ⟨_, rfl⟩
    subst hV
    obtain ⟨k, v, rfl, rfl, hk, hown, hbel⟩ := hrel
    have hsz := hbel.size
    by_cases hlt : k < l.length
    · obtain ⟨b, o, a3, c3, rfl, hb1, e0, e1, e2, e3, e4, e5, hrf, hfc⟩ := type_cells Hr.out hlt hbel
      have hf := (Hs.out l[k] (List.getElem_mem hlt)).1
      have Hnx := Lib.hid (show l.take (k + 1) = l.take k ++ [l[k]] from List.take_succ_eq_append_getElem hlt)
      have htl : (l.take k).length ≤ 24 := by rw [List.length_take]; omega
      have i1 : (0 : Int) ≤ (k : Int) := by omega
      have i2 : (k : Int) < (l.length : Int) := by omega
      have hpl := OwnG.lt hown
      have O0 := Lib.hid (((hown.mono (P' := fun q => w.heap.size ≤ q ∧ q < wr.heap.size) (fun q hq hl => ⟨hq, hl⟩)).alloc (.cells #[.int .i64 l[k].fKind, .int .i64 l[k].fLong, .int .i64 l[k].fBase, .slice a3 l[k].fFields.length c3, .string l[k].fOwner, .string l[k].fName] 56)).alloc (.cells #[] 58))
      have B0 := Lib.hid ((hbel.alloc hsz (.cells #[.int .i64 l[k].fKind, .int .i64 l[k].fLong, .int .i64 l[k].fBase, .slice a3 l[k].fFields.length c3, .string l[k].fOwner, .string l[k].fName] 56)).alloc (hbel.alloc hsz (.cells #[.int .i64 l[k].fKind, .int .i64 l[k].fLong, .int .i64 l[k].fBase, .slice a3 l[k].fFields.length c3, .string l[k].fOwner, .string l[k].fName] 56)).size (.cells #[] 58))
      have X0 := Lib.hid ((Box.new wr 56 #[.int .i64 l[k].fKind, .int .i64 l[k].fLong, .int .i64 l[k].fBase, .slice a3 l[k].fFields.length c3, .string l[k].fOwner, .string l[k].fName]).alloc (.cells #[] 58))
      have F0 := Lib.hid (show OwnG fieldS 58 (wr.heap.size + 1) Nowhere ((wr.alloc (.cells #[.int .i64 l[k].fKind, .int .i64 l[k].fLong, .int .i64 l[k].fBase, .slice a3 l[k].fFields.length c3, .string l[k].fOwner, .string l[k].fName] 56)).alloc (.cells #[] 58)) (.slice (some ⟨wr.heap.size + 1, 0, none⟩) 0 0) [] from .inr ⟨wr.heap.size + 1, 0, #[], rfl, Nat.le_refl _, Box.new' _ _ _ (by simp), Nat.le_refl _, by decide, by simp, fun i hi _ => absurd hi (by simp)⟩)
      have R0 := Lib.hid ((hrf.below ((Below.refl _ _).alloc (Nat.le_refl _) (.cells #[.int .i64 l[k].fKind, .int .i64 l[k].fLong, .int .i64 l[k].fBase, .slice a3 l[k].fFields.length c3, .string l[k].fOwner, .string l[k].fName] 56))).below ((Below.refl _ _).alloc (Nat.le_refl _) (.cells #[] 58)))
      clear hown hbel hrf
      generalize l[k] = t at *
      have x3 : _ = some (Value.slice a3 t.fFields.length c3) := X0.out.cell 3
      have hw2 : wr.heap.size + 1 ≤ ((wr.alloc (.cells #[.int .i64 t.fKind, .int .i64 t.fLong, .int .i64 t.fBase, .slice a3 t.fFields.length c3, .string t.fOwner, .string t.fName] 56)).alloc (.cells #[] 58)).heap.size := by simp
      go_wp2_with (at_builtin; refine wpList_pushFields rfl (.tmp 12) (.tmp 14) rfl (wr.heap.size + 1) _ _ rfl F0.out t.fFields a3 c3 rfl R0.out (by omega) hw2 ?_)
      intro v1 w1 hown1 hg1 hv1
      have X1 := Lib.hid (show Box w1 wr.heap.size 56 #[.int .i64 t.fKind, .int .i64 t.fLong, .int .i64 t.fBase, .slice a3 t.fFields.length c3, .string t.fOwner, .string t.fName] from (hg1.block wr.heap.size X0.out.lt (fun e => by rw [ownBlock_slice] at e; injection e with e; omega)).trans X0.out)
      have O1 := Lib.hid (O0.out.keep (fun q hq hl => hg1.block q hl (fun e => by
        rw [ownBlock_slice] at e
        injection e with e
        rcases hq with hq | hq
        · have := hq.2; omega
        · have := (hpl q hq).2; omega)) hg1.size)
      have B1 := Lib.hid (B0.out.grown hg1 B0.out.size (fun q hq => by rw [ownBlock_slice] at hq; injection hq with hq; omega))
      obtain ⟨fa, fc, rfl, hfle, _, hfr⟩ := OwnG.rows (Q := fun q => wr.heap.size + 1 ≤ q) hown1 (fun q hq _ => hq.elim) (fun q hq => (OwnG.lt hown1 q hq).1)
      have F1 := Lib.hid hown1
      have FR := Lib.hid hfr
      have f3 := X1.out.free 3
      have z3 : _ = some (Value.slice a3 t.fFields.length c3) := X1.out.cell 3
      clear x3 hg1 hv1 hown1 hfr O0 X0 F0 R0 B0
      have hl1 := X1.out.lt
      have X2 := Lib.hid (show Box (w1.setCell ⟨wr.heap.size, 3, none⟩ (.slice fa t.fFields.length fc)) wr.heap.size 56 #[.int .i64 t.fKind, .int .i64 t.fLong, .int .i64 t.fBase, .slice fa t.fFields.length fc, .string t.fOwner, .string t.fName] from X1.out.set 3 _)
      have hon : Only wr.heap.size w1 (w1.setCell ⟨wr.heap.size, 3, none⟩ (.slice fa t.fFields.length fc)) := (Only.refl _ _).set 3 _
      have O2 := Lib.hid ((O1.out.keep (fun q hq hl => hon.block q hl (fun e => by
        injection e with e
        rcases hq with hq | hq
        · have := hq.2; omega
        · have := (hpl q hq).2; omega)) hon.size).mono (P' := fun q => w.heap.size ≤ q) (fun q hq _ => hq.1))
      have AT := Lib.hid (show typeZ.At (fun q => w.heap.size ≤ q ∧ V.ownBlock ≠ some q) (w1.setCell ⟨wr.heap.size, 3, none⟩ (.slice fa t.fFields.length fc)) [.int .i64 t.fKind, .int .i64 t.fLong, .int .i64 t.fBase, .slice fa t.fFields.length fc, .string t.fOwner, .string t.fName] t from
        ⟨fa, fc, rfl, (FR.out.keep (fun q hq hl => hon.block q hl (fun e => by injection e with e; omega)) hon.size).mono (fun q hq _ => ⟨by omega, fun e => by have := (hpl q e).2; omega⟩), hfle,
          (thaw_own F1.out).keep (FR.out) (fun q hq hl => hon.block q hl (fun e => by injection e with e; omega))⟩)
      have B2 := Lib.hid (Below.setCell (p := ⟨wr.heap.size, 3, none⟩) B1.out hsz (.slice fa t.fFields.length fc))
      have hs2 := B2.out.size
      clear O1 B1 FR F1 hon
      obtain ⟨y0, y1, y2, y3, y4, y5⟩ := box6s X2.out
      go_wp2_with (at_builtin; refine wpList_pushG rfl _ _ _ rfl typeZ 56 i0 (.agg #[.int .i64 0, .int .i64 0, .int .i64 0, .slice none 0 0, .string ByteArray.empty, .string ByteArray.empty]) 80 Try.underlying24 ?q1 ?q2 ?q3 ?q4 rfl (by decide) (by omega) w.heap.size (fun q => w.heap.size ≤ q) _ _ (l.take k) rfl ?q5 t [.int .i64 t.fKind, .int .i64 t.fLong, .int .i64 t.fBase, .slice fa t.fFields.length fc, .string t.fOwner, .string t.fName] _ _ rfl ?q6 ?q7 ?q8 ?q9 ?q10 ?_)
      case q1 => exact Hi.out.1
      case q2 => exact Hi.out.2.1
      case q3 => exact Hi.out.2.2.1
      case q4 => exact Hi.out.2.2.2
      case q5 => exact O2.out.alloc _
      case q6 =>
        intro j _
        refine Eq.trans ((Box.new' (g := w1.heap.size) _ 56 #[.int .i64 t.fKind, .int .i64 t.fLong, .int .i64 t.fBase, .slice fa t.fFields.length fc, .string t.fOwner, .string t.fName] (by first | (simp; done) | (simp [World.setCell]; done))).cell j) ?_
        simp
      case q7 => exact typeZ.keep AT.out (fun q _ hq => Below.heap_alloc _ _ q hq) (by simp)
      case q8 =>
        intro y hy
        simp only [List.mem_cons, List.not_mem_nil, or_false] at hy
        rcases hy with rfl | rfl | rfl | rfl | rfl | rfl <;> rfl
      case q9 => omega
      case q10 => simp at hs2 ⊢; omega
      intro v9 w9 hown9 hg9 _
      have B9 := Lib.hid ((B2.out.alloc hs2 (.cells #[.int .i64 t.fKind, .int .i64 t.fLong, .int .i64 t.fBase, .slice fa t.fFields.length fc, .string t.fOwner, .string t.fName] 56)).grown hg9 (by simp at hs2 ⊢; omega) (fun q hq => (hpl q hq).1))
      rw [← Hnx.out] at hown9
      have O9 := Lib.hid hown9
      clear hown9 hg9 y0 y1 y2 y3 y4 y5
      go_wp2_with fail
      exact ⟨⟨k + 1, _, by congr 1, rfl, by omega, O9.out, B9.out⟩, by simp [intOf]; omega⟩
    · have hown2 := hown
      rw [show k = l.length by omega, List.take_length] at hown2
      have O2 := Lib.hid hown2
      have Hbel := Lib.hid hbel
      clear hbel hown hown2
      go_wp2_with fail
      go_ret
      exact ⟨_, rfl, O2.out, Hbel.out⟩

theorem results_tmp4 {fn : Func} {t u v x : Tmp} (h : fn.results = #[.tmp t, .tmp u, .tmp v, .tmp x]) (tmps : Array Value) (P : Program) (w : World) :
    (results fn tmps).run P w = .ok (.tuple #[tmps.getD t undef, tmps.getD u undef, tmps.getD v undef, tmps.getD x undef]) w := by
  simp [results, h]
/-- A drawn table in blocks of a span. -/
def Tab (B S : Nat) (w : World) (a : Option Addr) (n c : Nat) : Prop := ∃ l : List TypeD, l.length = n ∧ n ≤ c ∧ c ≤ maxLen ∧ n ≤ 9 ∧ Rows typeS (fun q => B ≤ q ∧ q < S) w a l ∧ ∀ t ∈ l, shortT t
theorem Tab.only {B S q n c : Nat} {w w' : World} {a : Option Addr} (h : Tab B S w a n c) (ho : Only q w w') (hq : q < B ∨ S ≤ q) : Tab B S w' a n c := by
  obtain ⟨l, h1, h2, h3, h4, h5, h6⟩ := h
  exact ⟨l, h1, h2, h3, h4, h5.keep (fun b hb hl => ho.block b hl (fun e => by injection e with e; omega)) ho.size, h6⟩
theorem Tab.below {B S n c : Nat} {w w' : World} {a : Option Addr} (h : Tab B S w a n c) (hb : Below w.heap.size w w') : Tab B S w' a n c := by
  obtain ⟨l, h1, h2, h3, h4, h5, h6⟩ := h
  exact ⟨l, h1, h2, h3, h4, h5.below hb, h6⟩
theorem TDrawn.below' {n c : Nat} {w w' : World} {a : Option Addr} (h : TDrawn w a n c w') : Below w.heap.size w w' := by
  obtain ⟨l, h1, h2, h3, h4, h5, h6, h7⟩ := h
  exact h7
theorem Tab.drawn {B S n c : Nat} {w w' : World} {a : Option Addr} (h : Tab B S w' a n c) (hB : w.heap.size ≤ B) (hb : Below w.heap.size w w') : TDrawn w a n c w' := by
  obtain ⟨l, h1, h2, h3, h4, h5, h6⟩ := h
  exact ⟨l, h1, h2, h3, h4, h5.mono (fun q hq _ => by omega), h6, hb⟩
theorem AnyT.drawnB {k n c B : Nat} {w w' : World} {o : Obj} {a : Option Addr} (h : AnyT w.heap.size k B (w.alloc o) a n c w') (hB : w.heap.size ≤ B) : TDrawn w a n c w' := by
  obtain ⟨l, h1, h2, h3, h4, h5, h6, _, h8⟩ := h
  exact ⟨l, h1, h2, h3, h4, (rowsZ h5).mono (fun q hq _ => by omega), h6, freshOnly h8⟩
set_option maxHeartbeats 16000000 in
theorem dSameTypes (a : Option Addr) (len cap : Nat) (w : World) (h : Code w a len) : Calls Try.prog 11 #[.slice a len cap] w fun e w' => ∃ a n c x b n' c' y, e = .returned (.tuple #[.slice a n c, .int .i64 x, .slice b n' c', .int .i64 y]) ∧ TDrawn w a n c w' ∧ TDrawn w b n' c' w' := by
  have H := Lib.hid h
  clear h
  go_enter Try.func11, Try.ntmps11
  go_wp2_with fail
  refine (cTyped _ 0 _ (by decide) H.out.cur).mono ?_
  rintro e w1 ⟨a1, n, c, m, rfl, m0, m1, hat⟩
  obtain ⟨l, hln, hnc, hcm, hn9, hrw, hsh, hcu, hon⟩ := hat
  have hs0 := hon.size
  simp only [World.size_alloc] at hs0
  have T1 := Lib.hid (show Tab (w.alloc (.cells #[.slice a len cap, .int .i64 0, .int .u64 0] 49)).heap.size w1.heap.size w1 a1 n c from ⟨l, hln, hnc, hcm, hn9, (rowsZ hrw).mono (fun q hq hl => ⟨hq, hl⟩), hsh⟩)
  have HO := Lib.hid (sOwnT a1 c l w1 (by omega) hsh ((rowsZ hrw).any))
  rw [hln] at HO
  have C1 := Lib.hid hcu
  have O1 := Lib.hid hon
  have Sh := Lib.hid hsh
  clear hrw hcu hon hsh
  go_wp2_with fail
  refine HO.out.mono ?_
  rintro e w2 ⟨v2, rfl, hown, hb2⟩
  obtain ⟨a2, lc, rfl, hlc, hlc2, hr2⟩ := OwnG.rows (Q := fun q => w1.heap.size ≤ q) hown (fun q hq _ => hq) (fun q hq => (OwnG.lt hown q hq).1)
  have T2 := Lib.hid (T1.out.below hb2)
  have C2 := Lib.hid (C1.out.below hb2 C1.out.lt)
  have A2 := Lib.hid (show AnyT w.heap.size (0 + 1200) w1.heap.size (w.alloc (.cells #[.slice a len cap, .int .i64 0, .int .u64 0] 49)) a2 n lc w2 from ⟨l, hln, by omega, hlc2, hn9, hr2, Sh.out, C2.out, O1.out.trans (Only.ofBelow hb2)⟩)
  have hs2 := hb2.size
  have W2 := Lib.hid hown
  clear hown hb2 hr2 HO T1 C1 O1 Sh
  rw [hln]
  rw [hln] at hlc
  go_wp2_with fail
  refine (sl1Most 1 (n : Int) _).mono ?_
  rintro e w2 ⟨z, rfl, rfl, hz1, hz2, hz3⟩
  go_wp2_with fail
  refine (cPick w.heap.size _ z _ (by omega) (by omega) (by omega) C2.out).mono ?_
  rintro e w3 ⟨q0, ⟨q00, q01⟩, rfl, hc3, ho3⟩
  obtain ⟨q, rfl⟩ := Int.eq_ofNat_of_zero_le q00
  have T3 := Lib.hid (T2.out.only ho3 (by simp))
  have A3 := Lib.hid (A2.out.pick (by omega) hc3 ho3)
  have C3 := Lib.hid hc3
  by_cases hqn : (q : Int) < (n : Int)
  · obtain ⟨rb, ro, rcs, hra, hrB, hrl, _, _⟩ := (show Rows typeZ (fun q => w1.heap.size ≤ q) w2 a2 l from by obtain ⟨a', c', e', _, _, hr⟩ := OwnG.rows (Q := fun q => w1.heap.size ≤ q) W2.out (fun q hq _ => hq) (fun q hq => (OwnG.lt W2.out q hq).1); injection e' with e'; subst e'; exact hr) 0 (by omega)
    subst hra
    have hro : ro = 0 := by
      rcases W2.out with ⟨h, _⟩ | ⟨b', cap', cur, hv, _⟩
      · cases h
      · injection hv with hv
        injection hv with hv
        injection hv
    subst hro
    obtain ⟨cur, hbox, _⟩ := OwnG.boxOf W2.out
    have hrg : rb ≠ w.heap.size := by omega
    have X3 := Lib.hid (hbox.only ho3 hrg)
    clear hbox hc3 ho3 W2 A2 T2 C2
    go_wp2_with fail
    refine (cPick w.heap.size _ 6 _ (by omega) (by omega) (by omega) C3.out).mono ?_
    rintro e w4 ⟨x, ⟨x0, x1⟩, rfl, hc4, ho4⟩
    have T4 := Lib.hid (T3.out.only ho4 (by simp))
    have A4 := Lib.hid (A3.out.pick (by omega) hc4 ho4)
    have X4 := Lib.hid (X3.out.only ho4 hrg)
    have C4 := Lib.hid hc4
    clear hc4 ho4 A3 X3 C3 T3
    obtain ⟨l3, d1, _, _, _, d5, d6, _, _⟩ := A4.out
    have hq3 : q < l3.length := by omega
    obtain ⟨b, o, cs, hba, _, hb1, hc1, hat⟩ := d5 q hq3
    obtain ⟨a3, c3, rfl, hrf, hfc, hfz⟩ := hat
    cases hba
    have hS : typeZ.n = 6 := rfl
    rw [hS] at hc1
    have e1 := hc1 1 (by decide)
    have e3 := hc1 3 (by decide)
    simp at e1 e3
    have fr := X4.out.free
    have i1 : (0 : Int) ≤ (q : Int) := by omega
    have i2 : (q : Int) < (n : Int) := by omega
    have HF := Lib.hid hrf
    clear hc1 d5 hrf
    by_cases h0 : x = 0
    · subst h0
      have AE := Lib.hid (fun u hu => A4.out.over (u := u) e1 hu (by simp; omega) (by omega))
      have TE := Lib.hid (fun u => T4.out.only ((Only.refl rb w4).set (q * 6 + 1) u) (.inr hrB))
      go_wp2_with fail
      ((try simp only [Exit.inBlock, Exit.then]); refine bodyPost_ret (results_tmp4 rfl _ _ _) rfl ?_)
      exact ⟨_, n, c, m, _, n, lc, m, rfl, (TE.out _).drawn (by simp) ((AE.out _ (.inl ⟨_, _, rfl, rfl⟩)).drawnB (by omega)).below', (AE.out _ (.inl ⟨_, _, rfl, rfl⟩)).drawnB (by omega)⟩
    have b0 : (x == 0) = false := beq_eq_false_iff_ne.2 h0
    have D4 := Lib.hid (A4.out.drawnB (by omega))
    have DT4 := Lib.hid (T4.out.drawn (w := w) (by simp) D4.out.below')
    by_cases h1 : x = 1
    · subst h1
      clear b0 h0
      by_cases hf0 : 0 < l3[q].fFields.length
      · obtain ⟨b3, o3, cs3, rfl, f1, f2, f3, f4⟩ := HF.out 0 hf0
        obtain rfl : cs3 = [.string l3[q].fFields[0].fName, .int .i64 l3[q].fFields[0].fMark, .int .i64 l3[q].fFields[0].fType] := f4
        have k2 := f3 1 (by decide)
        have hnf : fieldS.n = 3 := rfl
        rw [hnf] at k2
        simp at k2
        have fz := hfz hf0 b3 o3 (o3 + 1) rfl
        have hb3 : b3 ≠ w.heap.size := by omega
        have j1 : (0 : Int) < (l3[q].fFields.length : Int) := by omega
        have j3 : (0 : Int) ≤ 0 := Int.le_refl 0
        have CD := Lib.hid (C4.out.below (⟨rfl, rfl, rfl, Nat.le_refl _, fun _ _ => rfl⟩ : Below w4.heap.size w4 w4.drew) C4.out.lt)
        go_wp2_with fail
        go_region_law (go_simp; go_at_call 32; refine (cPick w.heap.size _ 3 _ (by omega) (by omega) (by omega) CD.out).mono ?_; rintro e w5 ⟨y, ⟨y0, y1⟩, rfl, hc5, ho5'⟩; have ho5 : Only w.heap.size w4 w5 := ⟨ho5'.os, ho5'.tape, ho5'.output, ho5'.size, ho5'.block⟩; clear ho5'; have A5 := Lib.hid (A4.out.pick (by omega) hc5 ho5); have T5 := Lib.hid (T4.out.only ho5 (by simp)); have X5 := Lib.hid (X4.out.only ho5 hrg); have g3 := (World.cell?_of_block (a := ⟨rb, q * 6 + 3, none⟩) (ho5.block rb X4.out.lt (fun e => by injection e with e; omega))).trans e3; have m2 := (World.cell?_of_block (a := ⟨b3, o3 + 1, none⟩) (ho5.block b3 f2 (fun e => by injection e with e; omega))).trans k2; have mz : w5.frozen? ⟨b3, o3 + 1, none⟩ = false := (by unfold World.frozen? at fz ⊢; rw [ho5.block b3 f2 (fun e => by injection e with e; omega)]; exact fz); have AE := Lib.hid (fun u hu => A5.out.over (u := u) m2 hu (by simp; omega) (by omega)); have TE := Lib.hid (fun u => T5.out.only ((Only.refl b3 w5).set (o3 + 1) u) (.inr f1)); clear hc5 ho5)
        all_goals
          have AX := Lib.hid (AE.out (.int .i64 y) (.inl ⟨_, _, rfl, rfl⟩))
          have TX := Lib.hid (TE.out (.int .i64 y))
          clear AE TE m2 mz g3 X5 A5 T5
          go_wp2_with fail
          ((try simp only [Exit.inBlock, Exit.then]); refine bodyPost_ret (results_tmp4 rfl _ _ _) rfl ?_)
          have D := AX.out.drawnB (by omega)
          exact ⟨_, n, c, m, _, n, lc, m, rfl, TX.out.drawn (by simp) D.below', D⟩
      · have j2 : ¬ (0 : Int) < (l3[q].fFields.length : Int) := by omega
        go_wp2_with fail
        ((try simp only [Exit.inBlock, Exit.then]); refine bodyPost_ret (results_tmp4 rfl _ _ _) rfl ?_)
        exact ⟨_, n, c, m, _, n, lc, m, rfl, DT4.out, D4.out⟩
    have b1 : (x == 1) = false := beq_eq_false_iff_ne.2 h1
    by_cases h2 : x = 2
    · subst h2
      clear b0 b1 h0 h1
      go_wp2_with fail
      ((try simp only [Exit.inBlock, Exit.then]); refine bodyPost_ret (results_tmp4 rfl _ _ _) rfl ?_)
      exact ⟨_, n, c, m, _, n, lc, _, rfl, DT4.out, D4.out⟩
    have b2 : (x == 2) = false := beq_eq_false_iff_ne.2 h2
    go_wp2_with fail
    ((try simp only [Exit.inBlock, Exit.then]); refine bodyPost_ret (results_tmp4 rfl _ _ _) rfl ?_)
    exact ⟨_, n, c, m, _, n, lc, m, rfl, DT4.out, D4.out⟩
  · have D3 := Lib.hid (A3.out.drawnB (by omega))
    have DT3 := Lib.hid (T3.out.drawn (w := w) (by simp) D3.out.below')
    go_wp2_with fail
    ((try simp only [Exit.inBlock, Exit.then]); refine bodyPost_ret (results_tmp4 rfl _ _ _) rfl ?_)
    exact ⟨_, n, c, m, _, n, lc, m, rfl, DT3.out, D3.out⟩
end Go.Proofs.Ytkbgkfmflieidaa
