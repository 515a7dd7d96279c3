
/-
  What is proved: plain facts on records that extend one another: how deep, their root, their fields; a comparison of two fields as one Bool. No condition beside what each theorem states.
-/
import Derived.Test.YtlfigpdjhljdnaaAllG
import Derived.Test.YtlfigpdjhljdnaaEqHeads
namespace Go.Proofs.Ytlfigpdjhljdnaa
open Go.ChangeShapes Go.WideShapes Go.ChangeAt Go.RowKit
set_option maxRecDepth 100000

theorem chain_own {l : List TypeD} (hg : good l) {x : Int} (h : kindZ l x = 5) : x ∈ chain l x := by rw [chain_cons hg h]; simp
theorem chain_tail {l : List TypeD} (hg : good l) {b : Int} : ∀ (n : Nat) (a : Int), (chain l a).length ≤ n → b ∈ chain l a → ∃ pre, chain l a = pre ++ chain l b := by
  intro n
  induction n with
  | zero =>
    intro a hn hb
    have h0 : chain l a = [] := List.eq_nil_of_length_eq_zero (by omega)
    rw [h0] at hb
    cases hb
  | succ n ih =>
    intro a hn hb
    have ha : kindZ l a = 5 := by
      by_cases e : kindZ l a = 5
      · exact e
      · rw [chain_end e] at hb; cases hb
    have hless := chain_less hg ha
    rw [chain_cons hg ha] at hb
    rcases List.mem_cons.1 hb with rfl | hb
    · exact ⟨[], rfl⟩
    · obtain ⟨pre, hp⟩ := ih (baseZ l a) (by omega) hb
      exact ⟨a :: pre, by rw [chain_cons hg ha, hp]; rfl⟩
theorem ext_both {l : List TypeD} (hg : good l) {a b : Int} (h1 : b ∈ chain l a) (h2 : a ∈ chain l b) : a = b := by
  obtain ⟨p, hp⟩ := chain_tail hg _ a (Nat.le_refl _) h1
  obtain ⟨q, hq⟩ := chain_tail hg _ b (Nat.le_refl _) h2
  have e1 := congrArg List.length hp
  have e2 := congrArg List.length hq
  rw [List.length_append] at e1 e2
  have hp0 : p = [] := List.eq_nil_of_length_eq_zero (by omega)
  subst hp0
  have ka : kindZ l a = 5 := by
    by_cases e : kindZ l a = 5
    · exact e
    · rw [chain_end e] at h1; cases h1
  have kb : kindZ l b = 5 := chain_kind h1
  rw [List.nil_append, chain_cons hg ka, chain_cons hg kb] at hp
  injection hp
theorem ext_told {l : List TypeD} {a b : Int} (h : extOk l a b = true) : recP l a ∧ recP l b ∧ extOk l a a = true ∧ extA l a a = true ∧ extOk l b a = true ∧ (extA l a b = true → extA l b a = true → a = b) ∧
    (extA l a b = true → deepA l b ≤ deepA l a ∧ rootA l a = rootA l b ∧ ∃ rest, allA l a = allA l b ++ rest) := by
  have hP : good l ∧ kindZ l a = 5 ∧ kindZ l b = 5 := by unfold extOk at h; simpa using h
  obtain ⟨hg, ka, kb⟩ := hP
  obtain ⟨o1, o2⟩ := ext_in (l := l) (x := a) (y := a) ⟨hg, ka, ka⟩
  obtain ⟨p1, p2⟩ := ext_in (l := l) (x := b) (y := a) ⟨hg, kb, ka⟩
  obtain ⟨_, q2⟩ := ext_in (l := l) (x := a) (y := b) ⟨hg, ka, kb⟩
  refine ⟨⟨hg, ka⟩, ⟨hg, kb⟩, o1, by rw [o2]; exact decide_eq_true (chain_own hg ka), p1, fun h1 h2 => ?_, fun h1 => ?_⟩
  · rw [q2] at h1
    rw [p2] at h2
    exact ext_both hg (of_decide_eq_true h1) (of_decide_eq_true h2)
  · rw [q2] at h1
    obtain ⟨p, hp⟩ := chain_tail hg _ a (Nat.le_refl _) (of_decide_eq_true h1)
    rw [deepA_in ⟨hg, ka⟩, deepA_in ⟨hg, kb⟩, rootA_in ⟨hg, ka⟩, rootA_in ⟨hg, kb⟩, allA_in ⟨hg, ka⟩, allA_in ⟨hg, kb⟩]
    refine ⟨?_, ?_, ?_⟩
    · unfold deepZ
      rw [hp, List.length_append]
      omega
    · unfold rootZ
      have hne : chain l b ≠ [] := by rw [chain_cons hg kb]; simp
      rw [hp, List.getLast?_append]
      cases h : (chain l b).getLast? with
      | none => exact absurd (List.getLast?_eq_none_iff.1 h) hne
      | some v => rfl
    · unfold downZ
      rw [hp, List.reverse_append, allF_app]
      exact ⟨_, rfl⟩
theorem root_rec {l : List TypeD} (hg : good l) : ∀ (n : Nat) (x : Int), (chain l x).length ≤ n → kindZ l x = 5 → kindZ l (rootZ l x) = 5 ∧ deepZ l (rootZ l x) = 0 := by
  intro n
  induction n with
  | zero => intro x hn hx; rw [chain_cons hg hx] at hn; simp at hn
  | succ n ih =>
    intro x hn hx
    have hless := chain_less hg hx
    obtain ⟨k, rfl, hk, h5⟩ := kind5 hx
    have hb := hg.1.base hk h5
    rw [← baseZ_in hk] at hb
    rcases hb with hb | hb
    · rw [root_end hg hx hb]
      refine ⟨hx, ?_⟩
      unfold deepZ
      rw [deep_end hg hx hb]
      rfl
    · rw [root_up hg hx hb]
      exact ih _ (by omega) hb
theorem root_told {l : List TypeD} {x : Int} (h : recB l x = true) : recB l (rootA l x) = true ∧ deepA l (rootA l x) = 0 := by
  have hp := recB_iff.1 h
  rw [rootA_in hp]
  obtain ⟨h1, h2⟩ := root_rec hp.1 _ x (Nat.le_refl _) hp.2
  exact ⟨recB_true ⟨hp.1, h1⟩, by rw [deepA_in ⟨hp.1, h1⟩]; exact h2⟩
theorem allA_most {l : List TypeD} {x : Int} : (allA l x).length ≤ 144 := by
  by_cases h : recP l x
  · rw [allA_in h]; exact down_len h.1 x
  · rw [allA_out h]; simp
theorem eqThree {P : Program} {t s i : TypeId} {f0 f1 f2 : Field} (hk : P.underlying t = some (.struct #[f0, f1, f2])) (hp : P.stoodInHeld t = false)
    (n0 : (f0.name != "_") = true) (n1 : (f1.name != "_") = true) (n2 : (f2.name != "_") = true) (t0 : f0.type = s) (t1 : f1.type = i) (t2 : f2.type = i) (o0 : f0.offset = 0) (o1 : f1.offset = 1) (o2 : f2.offset = 2) (hs : P.underlying s = some .string) (hi : P.underlying i = some (.int .i64))
    (d : Nat) (a a' : ByteArray) (x x' y y' : Int) (W : World) : (Op.equalIn (d + 1 + 1) t (.agg #[.string a, .int .i64 x, .int .i64 y]) (.agg #[.string a', .int .i64 x', .int .i64 y'])).run P W = .ok ((a.toList == a'.toList) && ((x == x') && (y == y'))) W := by
  have hf : P.fieldsOf t = #[f0, f1, f2] := by unfold Program.fieldsOf; rw [hk]
  have ps := part_cell (P := P) (s := s) (by rw [hs])
  have pi := part_cell (P := P) (s := i) (by rw [hi])
  rw [bne_iff_ne] at n0 n1 n2
  rw [run_equalIn_struct W (d + 1) t _ _ (by rw [hf]; exact hk) hp, hf]
  simp only [Op.eqFields, n0, n1, n2, ne_eq, not_false_eq_true, if_true, t0, t1, t2, o0, o1, o2]
  cases h0 : (a.toList == a'.toList) <;> cases h1 : (x == x') <;> cases h2 : (y == y') <;>
    simp [Sem.run_bind, ps, pi, run_equalIn_string _ d s _ _ hs, run_equalIn_int _ d i _ _ _ _ hi, Result.andThen, h0, h1, h2]
theorem eqFld (f : FieldD) (W : World) : (Op.equalIn 10000 79 (.agg #[.string f.fName, .int .i64 f.fMark, .int .i64 f.fType]) (.agg #[.string f.fName, .int .i64 f.fMark, .int .i64 f.fType])).run Try.prog W = .ok true W := by
  have h := eqThree Try.underlying79 (by kernel_rfl) (by decide) (by decide) (by decide) rfl rfl rfl rfl rfl rfl Try.underlying9 Try.underlying3 9998 f.fName f.fName f.fMark f.fMark f.fType f.fType W
  rw [show (10000 : Nat) = 9998 + 1 + 1 from rfl, h]
  simp
end Go.Proofs.Ytlfigpdjhljdnaa
