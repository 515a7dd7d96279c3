
/-
  What is said: types that are alike are so both ways, alike themselves, of one size, and of one number in each round. No condition beside what each theorem states.
-/
import Derived.Test.YtkbgkfmflieidaaSame
import Derived.Test.YtkbgkfmflieidaaSizeOf
import Derived.Test.YtkbgkfmflieidaaRounds
namespace Go.Proofs.Ytkbgkfmflieidaa
open Go.ChangeShapes Go.WideShapes Go.ChangeAt Go.RowKit

theorem headsEq.symm {t u : TypeD} (h : headsEq t u) : headsEq u t := ⟨h.1.symm, h.2.1.symm, h.2.2.1.symm, h.2.2.2.1.symm, h.2.2.2.2.1.symm, h.2.2.2.2.2.symm⟩
theorem sim_symm {A B : List TypeD} {x y : Int} (h : Sim A B x y) : Sim B A y x := by
  obtain ⟨H, hxy, hc⟩ := h
  refine ⟨fun p q => H q p, hxy, fun p q hpq => ?_⟩
  obtain ⟨m, n, hm, hn, rfl, rfl, hh, hp⟩ := hc _ _ hpq
  exact ⟨n, m, hn, hm, rfl, rfl, hh.symm, fun i h h' => ⟨(hp.1 i h' h).1.symm, (hp.1 i h' h).2.1.symm, (hp.1 i h' h).2.2⟩, fun hb => hp.2 (fun e => hb (hh.2.2.2.2.2.1 e))⟩
theorem sim_self {A : List TypeD} (hg : good A) {x : Int} (hx : 0 ≤ x ∧ x < (A.length : Int)) : Sim A A x x := by
  refine ⟨fun p q => p = q ∧ 0 ≤ p ∧ p < (A.length : Int), ⟨rfl, hx⟩, fun p q hpq => ?_⟩
  obtain ⟨rfl, h0, h1⟩ := hpq
  obtain ⟨m, rfl⟩ := Int.eq_ofNat_of_zero_le h0
  have hm : m < A.length := by omega
  refine ⟨m, m, hm, hm, rfl, rfl, ⟨rfl, rfl, rfl, rfl, rfl, Iff.rfl⟩, fun i h _ => ⟨rfl, rfl, rfl, ?_⟩, fun hb => ⟨rfl, ?_⟩⟩
  · exact hg.1.parts m hm _ (by unfold partsD; exact List.mem_append_right _ (List.mem_map_of_mem (List.getElem_mem h)))
  · exact hg.1.parts m hm _ (by unfold partsD; rw [if_neg hb]; exact List.mem_append_left _ (List.mem_singleton.2 rfl))
theorem sim_in {A B : List TypeD} {x y : Int} (h : Sim A B x y) : ∃ (m n : Nat) (hm : m < A.length) (hn : n < B.length), x = (m : Int) ∧ y = (n : Int) ∧ headsEq A[m] B[n] ∧ Parts A[m] B[n] (Sim A B) := by
  obtain ⟨H, hxy, hc⟩ := h
  obtain ⟨m, n, hm, hn, rfl, rfl, _⟩ := hc _ _ hxy
  have := Sim.closed hm hn ⟨H, hxy, hc⟩
  exact ⟨m, n, hm, hn, rfl, rfl, this⟩
/-- What is told of alike parts is told of the lists of them. -/
theorem parts_map {A B : List TypeD} {t u : TypeD} {F G : Int → Int} (hh : headsEq t u) (hp : Parts t u (Sim A B)) (hF : ∀ x y, Sim A B x y → F x = G y) : (insideD t).map F = (insideD u).map G := by
  have hf : t.fFields.map (fun f => F f.fType) = u.fFields.map (fun f => G f.fType) := by
    apply List.ext_getElem
    · simp [hh.2.2.2.2.1]
    · intro i h h'
      simp only [List.length_map] at h h'
      simp only [List.getElem_map]
      exact hF _ _ (hp.1 i h h').2.2
  unfold insideD partsD
  rw [← hh.2.2.1]
  split
  · rfl
  · rw [List.map_append, List.map_append, List.map_map, List.map_map]
    congr 1
    by_cases hb : t.fBase = -1
    · rw [if_pos hb, if_pos (hh.2.2.2.2.2.1 hb)]
      rfl
    · rw [if_neg hb, if_neg (fun e => hb (hh.2.2.2.2.2.2 e))]
      simp only [List.map_cons, List.map_nil]
      rw [hF _ _ (hp.2 hb)]
theorem sim_size {A B : List TypeD} : ∀ (f : Nat) (x y : Int), Sim A B x y → sizeF A f x = sizeF B f y := by
  intro f
  induction f with
  | zero => intro x y _; rfl
  | succ f ih =>
    intro x y h
    obtain ⟨m, n, hm, hn, rfl, rfl, hh, hp⟩ := sim_in h
    rw [sizeF_in f hm, sizeF_in f hn]
    unfold oneS sumZ
    rw [parts_map hh hp ih, hh.2.2.1, hh.2.2.2.1]
theorem sim_sizeA {A B : List TypeD} {x y : Int} (hx : atP A x) (hy : atP B y) (h : Sim A B x y) : sizeA A x = sizeA B y ∧ sizeB A x = sizeB B y := by
  have e : sizeS A x = sizeS B y := sim_size 24 x y h
  by_cases hs : sizeS A x ≤ 1000000000
  · have h1 := size_in (l := A) (x := x) ⟨hx, hs⟩
    have h2 := size_in (l := B) (x := y) ⟨hy, e ▸ hs⟩
    rw [h1.1, h1.2, h2.1, h2.2, e]
    exact ⟨rfl, rfl⟩
  · have h1 := size_out (l := A) (x := x) (fun g => hs g.2)
    have h2 := size_out (l := B) (x := y) (fun g => hs (e ▸ g.2))
    rw [h1.1, h1.2, h2.1, h2.2]
    exact ⟨rfl, rfl⟩
theorem first_same {t u : TypeD} (hh : headsEq t u) : firstZ t = firstZ u := by
  unfold firstZ
  rw [hh.1, hh.2.1, hh.2.2.1, hh.2.2.2.1, hh.2.2.2.2.1]
theorem getD_map' {T : Type} (f : T → Int) {l : List T} {n : Nat} (hn : n < l.length) : (l.map f).getD n 0 = f l[n] := by
  simp [List.getD, hn]
theorem flat_same {ah bh : List Int} : ∀ (l m : List FieldD), l.length = m.length → (∀ i (h : i < l.length) (h' : i < m.length), fieldZ ah l[i] = fieldZ bh m[i]) → fieldsZ ah l = fieldsZ bh m
  | [], [], _, _ => rfl
  | [], _ :: _, h, _ => by simp at h
  | _ :: _, [], h, _ => by simp at h
  | f :: l, g :: m, h, hf => by
    have h0 := hf 0 (by simp) (by simp)
    have ht := flat_same (ah := ah) (bh := bh) l m (by simpa using h) (fun i h1 h2 => hf (i + 1) (by simp; omega) (by simp; omega))
    unfold fieldsZ at *
    rw [List.flatMap_cons, List.flatMap_cons, ht]
    congr 1
theorem sim_rounds {A B : List TypeD} : ∀ (r : Nat) (m n : Nat), Sim A B (m : Int) (n : Int) → (roundsZ A r).getD m 0 = (roundsZ B r).getD n 0 := by
  intro r
  induction r with
  | zero =>
    intro m n h
    obtain ⟨m', n', hm, hn, e1, e2, hh, _⟩ := sim_in h
    obtain rfl := Int.ofNat.inj e1
    obtain rfl := Int.ofNat.inj e2
    show ((A.map firstZ).getD m 0) = ((B.map firstZ).getD n 0)
    rw [getD_map' firstZ hm, getD_map' firstZ hn, first_same hh]
  | succ r ih =>
    intro m n h
    obtain ⟨m', n', hm, hn, e1, e2, hh, hp⟩ := sim_in h
    obtain rfl := Int.ofNat.inj e1
    obtain rfl := Int.ofNat.inj e2
    show ((A.map (behindZ (roundsZ A r))).getD m 0) = ((B.map (behindZ (roundsZ B r))).getD n 0)
    rw [getD_map' _ hm, getD_map' _ hn]
    have key : ∀ x y : Int, Sim A B x y → (roundsZ A r).getD x.toNat 0 = (roundsZ B r).getD y.toNat 0 := fun x y hxy => by
      obtain ⟨p, q, _, _, rfl, rfl, _⟩ := sim_in hxy
      exact ih p q hxy
    unfold behindZ
    have hb : baseRZ (roundsZ A r) A[m] = baseRZ (roundsZ B r) B[n] := by
      unfold baseRZ
      by_cases hb : A[m].fBase = -1
      · rw [if_pos hb, if_pos (hh.2.2.2.2.2.1 hb)]
      · rw [if_neg hb, if_neg (fun e => hb (hh.2.2.2.2.2.2 e))]
        exact key _ _ (hp.2 hb)
    have hf : fieldsZ (roundsZ A r) A[m].fFields = fieldsZ (roundsZ B r) B[n].fFields := flat_same _ _ hh.2.2.2.2.1 (fun i h h' => by
      obtain ⟨q1, q2, q3⟩ := hp.1 i h h'
      unfold fieldZ
      rw [q1, q2, key _ _ q3])
    rw [hb, hf, first_same hh]
theorem sim_finger {A B : List TypeD} {x y : Int} (hx : atP A x) (hy : atP B y) (h : Sim A B x y) : tfA A x = tfA B y := by
  rw [(tf_in hx).2, (tf_in hy).2]
  obtain ⟨m, n, _, _, rfl, rfl, _⟩ := sim_in h
  exact sim_rounds 25 m n h
end Go.Proofs.Ytkbgkfmflieidaa
