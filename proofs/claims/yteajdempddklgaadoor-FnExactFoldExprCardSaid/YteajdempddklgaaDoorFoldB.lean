
/-
  What is proved: what folding answers, as data; contracts of FoldExpr of the program and of its model. No condition beside what each theorem states.
-/
import Derived.Test.YteajdempddklgaaDoorFoldA
import Derived.Test.YteajdempddklgaaDoorLEvalExpr
namespace Go.Proofs.YteajdempddklgaaDoor
open Go.ChangeShapes Go.WideShapes Go.ChangeAt Go.RowKit
set_option maxRecDepth 100000

def foldL (l : List StepD) (v cd : Int) : List StepD := if cd = 0 then (if v < 0 then [⟨1, -v, ByteArray.empty, ByteArray.empty⟩, ⟨8, 0, ByteArray.empty, ByteArray.empty⟩] else [⟨1, v, ByteArray.empty, ByteArray.empty⟩]) else l
def FoldP (l : List StepD) (ks : List KnownD) (fl : List StepD) (ok : Bool) : Prop :=
  ∃ v cd ok', EvP l ks v cd ok' ∧ ((ok' = false ∧ fl = [] ∧ ok = false) ∨ (ok' = true ∧ fl = foldL l v cd ∧ ok = true))
theorem fold_same {l : List StepD} {ks : List KnownD} {fl fl' : List StepD} {ok ok' : Bool} (h : FoldP l ks fl ok) (h' : FoldP l ks fl' ok') : fl = fl' ∧ ok = ok' := by
  obtain ⟨v, cd, o, h1, h2⟩ := h
  obtain ⟨v', cd', o', k1, k2⟩ := h'
  obtain ⟨rfl, rfl, rfl⟩ := ev_same h1 k1
  rcases h2 with ⟨rfl, rfl, rfl⟩ | ⟨rfl, rfl, rfl⟩ <;> rcases k2 with ⟨e, rfl, rfl⟩ | ⟨e, rfl, rfl⟩
  · exact ⟨rfl, rfl⟩
  · cases e
  · cases e
  · exact ⟨rfl, rfl⟩
def okS : VS → Prop
  | .run st => ∀ x ∈ st, wholeP x
  | .off c => 1 ≤ c ∧ c ≤ 3
theorem okS_step {ks : List KnownD} (hk : ∀ k ∈ ks, wholeP k.fValue) {s : VS} {a : ActD} (hs : okS s) (hf : a.fine) : okS (stepV ks s a) := by
  cases s with
  | off c => exact hs
  | run st =>
    show okS (match doA ks st a with | .good v => .run (st.take (st.length - a.takesN) ++ [v]) | .bad c => .off c)
    cases hd : doA ks st a with
    | good v => exact stack_whole _ hs (doA_whole hk hs hf hd)
    | bad c =>
      show 1 ≤ c ∧ c ≤ 3
      cases a with
      | num x => cases hd
      | name m n =>
        change nameR ks m n = _ at hd
        unfold nameR at hd
        split at hd
        · cases hd
        · cases hd; omega
      | pair j =>
        change pairR j _ _ = _ at hd
        unfold pairR at hd
        split at hd
        · cases hd; omega
        · split at hd
          · cases hd
          · cases hd; omega
      | minus => cases hd
theorem okS_fold {ks : List KnownD} (hk : ∀ k ∈ ks, wholeP k.fValue) : ∀ (xs : List ActD) (s : VS), okS s → (∀ a ∈ xs, a.fine) → okS (xs.foldl (stepV ks) s)
  | [], _, h, _ => h
  | a :: xs, _, h, hf => okS_fold hk xs _ (okS_step hk h (hf a (by simp))) (fun b hb => hf b (by simp [hb]))
theorem ev_info {l : List StepD} {ks : List KnownD} {v cd : Int} (h : EvP l ks v cd true) : l.length ≤ 40 ∧ 0 < l.length ∧ (-1000000000 ≤ v ∧ v ≤ 1000000000) ∧ 0 ≤ cd := by
  rcases h with ⟨xs, hg, hks, hv, _⟩ | ⟨_, _, _, h⟩
  · have hlen := hg.2.len.1
    have hw : okS (runV ks xs) := okS_fold hks.2 xs _ (fun x hx => absurd hx (by simp)) (fun a ha => by
      obtain ⟨k, hk, rfl⟩ := List.getElem_of_mem ha
      exact (hg.2.each k (by omega) hk).fine)
    refine ⟨hg.1, ?_, ?_⟩
    · by_cases h0 : 0 < l.length
      · exact h0
      · obtain rfl : xs = [] := List.eq_nil_of_length_eq_zero (by omega)
        have := hg.2.bal.unique Bal.nil
        cases this
    · cases hr : runV ks xs with
      | run st =>
        rw [hr] at hv hw
        injection hv with h1 h2
        subst h1 h2
        exact ⟨getD_whole hw 0, by omega⟩
      | off c =>
        rw [hr] at hv hw
        injection hv with h1 h2
        subst h1 h2
        have := hw.1
        exact ⟨by omega, by omega⟩
  · cases h
theorem fold_small {l : List StepD} {ks : List KnownD} {fl : List StepD} {ok : Bool} (h : FoldP l ks fl ok) : fl.length ≤ 40 := by
  obtain ⟨v, cd, o, h1, h2⟩ := h
  rcases h2 with ⟨_, rfl, _⟩ | ⟨rfl, rfl, _⟩
  · simp
  · have := (ev_info h1).1
    unfold foldL
    split
    · split <;> simp
    · exact this
theorem rows_some {l : List StepD} {w : World} {a : Option Addr} (h0 : 0 < l.length) (hr : Rows stepS Any w a l) : ∃ b o, a = some ⟨b, o, none⟩ := by
  obtain ⟨b, o, _, e, _⟩ := hr 0 h0
  exact ⟨b, o, e⟩

def PostFo (l : List StepD) (ks : List KnownD) (w : World) (e : Ending) (w' : World) : Prop :=
  ∃ a c fl ok, e = .returned (.tuple #[.slice a fl.length c, .bool ok]) ∧ OwnC w' w.heap.size a (fl.flatMap stepCells) ∧ FoldP l ks fl ok ∧ Below w.heap.size w w'

set_option maxHeartbeats 8000000 in
theorem iFoldExpr (a : Option Addr) (c : Nat) (l : List StepD) (a' : Option Addr) (c' : Nat) (ks : List KnownD) (w : World) (hk : Kept w) (he : ErrK w) (hcm : ∀ t ∈ l, t.fName.size ≤ 1048576 ∧ t.fMod.size ≤ 1048576) (hr : Rows stepS Any w a l) (hkl : ks.length ≤ 1048576) (hr' : Rows knownS Any w a' ks) :
    Calls Tryd.prog 18 #[.slice a l.length c, .slice a' ks.length c'] w (PostFo l ks w) := by
  have He := Lib.hid (iEvalExpr a c l a' c' ks w hk he (fun t ht => ⟨Nat.le_trans (hcm t ht).1 (by unfold maxLen; omega), Nat.le_trans (hcm t ht).2 (by unfold maxLen; omega)⟩) hr hkl hr')
  have Hcm := Lib.hid hcm
  have Hr := Lib.hid hr
  clear hk he hcm hr hr'
  go_enter Tryd.func18, Tryd.ntmps18
  go_wp2_with fail
  refine He.out.mono ?_
  unfold PostEv
  rintro e w1 ⟨v, cd, ok, rfl, hv, hb⟩
  have HV := Lib.hid hv
  have B1 := Lib.hid hb
  have hs1 := hb.size
  clear He hv hb
  cases ok
  · go_wp2_with fail
    go_ret2
    exact ⟨none, 0, [], false, rfl, .inl rfl, ⟨v, cd, false, HV.out, .inl ⟨rfl, rfl, rfl⟩⟩, B1.out⟩
  · obtain ⟨h40, h0, hvv, hcd⟩ := ev_info HV.out
    by_cases h1 : cd = 0
    · have HF := Lib.hid (show ∀ fl, fl = foldL l v 0 → FoldP l ks fl true from fun fl hfl => ⟨v, cd, true, HV.out, .inr ⟨rfl, by rw [h1]; exact hfl, rfl⟩⟩)
      subst h1
      by_cases h2 : v < 0
      · have HF2 := Lib.hid (HF.out _ (show [⟨1, -v, ByteArray.empty, ByteArray.empty⟩, ⟨8, 0, ByteArray.empty, ByteArray.empty⟩] = foldL l v 0 by unfold foldL; rw [if_pos rfl, if_pos h2]))
        go_wp2_with fail
        go_ret2
        exact ⟨some ⟨w1.heap.size, 0, none⟩, 2, _, true, rfl, .inr ⟨w1.heap.size, _, _, rfl, hs1, Box.new _ _ _, Nat.le_refl _, fun i hi => by
          have hi : i < 8 := hi
          match i, hi with
          | 0, _ | 1, _ | 2, _ | 3, _ | 4, _ | 5, _ | 6, _ | 7, _ => rfl
          | n + 8, h => omega⟩, HF2.out, B1.out.alloc hs1 _⟩
      · have HF2 := Lib.hid (HF.out _ (show [⟨1, v, ByteArray.empty, ByteArray.empty⟩] = foldL l v 0 by unfold foldL; rw [if_pos rfl, if_neg h2]))
        go_wp2_with fail
        go_ret2
        exact ⟨some ⟨w1.heap.size, 0, none⟩, 1, _, true, rfl, .inr ⟨w1.heap.size, _, _, rfl, hs1, Box.new _ _ _, Nat.le_refl _, fun i hi => by
          have hi : i < 4 := hi
          match i, hi with
          | 0, _ | 1, _ | 2, _ | 3, _ => rfl
          | n + 4, h => omega⟩, HF2.out, B1.out.alloc hs1 _⟩
    · have HF := Lib.hid (show FoldP l ks l true from ⟨v, cd, true, HV.out, .inr ⟨rfl, by unfold foldL; rw [if_neg h1], rfl⟩⟩)
      have hb1 : (cd == 0) = false := beq_eq_false_iff_ne.2 h1
      obtain ⟨b, o, rfl⟩ := rows_some h0 Hr.out
      have hfl := flat_len stepCells 4 step_len l
      go_wp2_with fail
      refine (iClonedSteps b o c l w1 h0 (by omega) Hcm.out (Hr.out.below B1.out)).mono ?_
      rintro e w2 ⟨rfl, hx2, hb2⟩
      have X2 := Lib.hid hx2
      have B2 := Lib.hid (B1.out.trans (hb2.mono hs1))
      clear hx2 hb2
      go_wp2_with fail
      go_ret2
      exact ⟨some ⟨w1.heap.size, 0, none⟩, l.length, l, true, rfl, .inr ⟨w1.heap.size, _, _, rfl, hs1, X2.out, by simp, fun i _ => by rw [List.getElem?_toArray]⟩, HF.out, B2.out⟩

set_option maxHeartbeats 8000000 in
theorem sFoldExpr (a : Option Addr) (c : Nat) (l : List StepD) (a' : Option Addr) (c' : Nat) (ks : List KnownD) (w : World) (hl : l.length ≤ 1048576) (hcm : ∀ t ∈ l, t.fName.size ≤ maxLen ∧ t.fMod.size ≤ maxLen) (hr : Rows stepS Any w a l) (hkl : ks.length ≤ 1048576) (hr' : Rows knownS Any w a' ks) :
    Calls Tryd.prog 17 #[.slice a l.length c, .slice a' ks.length c'] w (PostFo l ks w) := by
  have He := Lib.hid (sEvalExpr a c l a' c' ks w hl hcm hr hkl hr')
  have Hr := Lib.hid hr
  clear hcm hr hr'
  go_enter Tryd.func17, Tryd.ntmps17
  go_wp2_with fail
  refine He.out.mono ?_
  unfold PostEv
  rintro e w1 ⟨v, cd, ok, rfl, hv, hb⟩
  have HV := Lib.hid hv
  have B1 := Lib.hid hb
  have hs1 := hb.size
  clear He hv hb
  cases ok
  · go_wp2_with fail
    go_ret2
    exact ⟨none, 0, [], false, rfl, .inl rfl, ⟨v, cd, false, HV.out, .inl ⟨rfl, rfl, rfl⟩⟩, B1.out⟩
  · obtain ⟨h40, h0, hvv, hcd⟩ := ev_info HV.out
    by_cases h1 : cd = 0
    · have HF := Lib.hid (show ∀ fl, fl = foldL l v 0 → FoldP l ks fl true from fun fl hfl => ⟨v, cd, true, HV.out, .inr ⟨rfl, by rw [h1]; exact hfl, rfl⟩⟩)
      subst h1
      by_cases h2 : v < 0
      · have HF2 := Lib.hid (HF.out _ (show [⟨1, -v, ByteArray.empty, ByteArray.empty⟩, ⟨8, 0, ByteArray.empty, ByteArray.empty⟩] = foldL l v 0 by unfold foldL; rw [if_pos rfl, if_pos h2]))
        go_wp2_with fail
        go_ret2
        exact ⟨some ⟨w1.heap.size, 0, none⟩, 2, _, true, rfl, .inr ⟨w1.heap.size, _, _, rfl, hs1, Box.new _ _ _, Nat.le_refl _, fun i hi => by
          have hi : i < 8 := hi
          match i, hi with
          | 0, _ | 1, _ | 2, _ | 3, _ | 4, _ | 5, _ | 6, _ | 7, _ => rfl
          | n + 8, h => omega⟩, HF2.out, B1.out.alloc hs1 _⟩
      · have HF2 := Lib.hid (HF.out _ (show [⟨1, v, ByteArray.empty, ByteArray.empty⟩] = foldL l v 0 by unfold foldL; rw [if_pos rfl, if_neg h2]))
        go_wp2_with fail
        go_ret2
        exact ⟨some ⟨w1.heap.size, 0, none⟩, 1, _, true, rfl, .inr ⟨w1.heap.size, _, _, rfl, hs1, Box.new _ _ _, Nat.le_refl _, fun i hi => by
          have hi : i < 4 := hi
          match i, hi with
          | 0, _ | 1, _ | 2, _ | 3, _ => rfl
          | n + 4, h => omega⟩, HF2.out, B1.out.alloc hs1 _⟩
    · have HF := Lib.hid (show FoldP l ks l true from ⟨v, cd, true, HV.out, .inr ⟨rfl, by unfold foldL; rw [if_neg h1], rfl⟩⟩)
      have hb1 : decide (0 < cd) = true := decide_eq_true (by omega)
      obtain ⟨b, o, rfl⟩ := rows_some h0 Hr.out
      have hfl := flat_len stepCells 4 step_len l
      obtain ⟨i0, hi, hz0, hz1, hz2⟩ := info_parts infoStep
      have Hi := Lib.hid (And.intro hi (And.intro hz0 (And.intro hz1 hz2)))
      have R1 := Lib.hid (Hr.out.below B1.out)
      clear hi hz0 hz1 hz2
      go_wp2_with (at_builtin; refine wpList_append_own _ rfl _ _ 28 rfl w.heap.size 72 i0 _ 4 48 Tryd.underlying28 Hi.out.1 Hi.out.2.1 Hi.out.2.2.1 Hi.out.2.2.2 rfl (by decide) _ 0 [] rfl (World.ownsRow_made _ #[] 0 hs1 (by unfold maxLen; omega) rfl) ⟨b, o, none⟩ l.length c (l.flatMap stepCells) rfl hfl (step_src (R1.out.below ((Below.refl _ _).alloc (Nat.le_refl _) _))) step_one (by unfold maxLen; omega) (by omega) (by simp; omega) ?_; intro v' w4 hown4 hg4 hlt4)
      rw [Nat.zero_add, List.nil_append] at hown4
      obtain ⟨a4, c4, rfl, _, _, hoc⟩ := ownC_of_row hown4
      have B4 := Lib.hid ((B1.out.alloc hs1 (.cells #[] 72)).grown hg4 (by simp; omega) (fun k hk => by
        have hk : some w1.heap.size = some k := hk
        injection hk with hk
        omega))
      have Hoc := Lib.hid hoc
      clear hg4 hlt4 hown4 hoc
      go_ret2
      exact ⟨a4, c4, l, true, rfl, Hoc.out, HF.out, B4.out⟩
end Go.Proofs.YteajdempddklgaaDoor
