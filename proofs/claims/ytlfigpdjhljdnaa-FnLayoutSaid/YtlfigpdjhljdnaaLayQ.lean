
/-
  What is proved: plain facts on layouts: places one behind the other, each where it may lie; the layout of the base is ahead; what extends a record is no smaller. No condition beside what each theorem states.
-/
import Derived.Test.YtlfigpdjhljdnaaLayJ
import Derived.Test.YtlfigpdjhljdnaaExtP
namespace Go.Proofs.Ytlfigpdjhljdnaa
open Go.ChangeShapes Go.WideShapes Go.ChangeAt Go.RowKit
set_option maxRecDepth 100000

/-- Places one behind the other, from e on, each where it may lie. -/
def goodL : Int → List PlaceD → Prop
  | _, [] => True
  | e, p :: ps => (e ≤ p.fAt ∧ p.fAt ≤ 1000000000 ∧ 0 ≤ p.fSize ∧ p.fSize ≤ 1000000000 ∧ (0 < p.fSize → p.fSize ≤ 8 → p.fAt % p.fSize = 0) ∧ (8 < p.fSize → p.fAt % 8 = 0)) ∧ goodL (p.fAt + p.fSize) ps
theorem gat_good {l : List TypeD} (hne : near l) : ∀ (fs : List FieldD) (e : Int), 0 ≤ e → e ≤ 2000000000 → goodL e (gatL l e fs)
  | [], _, _, _ => trivial
  | f :: fs, e, h0, h1 => by
    have hn := nextE_bd hne (f := f) h0 h1
    have ih := gat_good hne fs _ hn.1 hn.2
    unfold gatL oneP
    by_cases h : okL l e f
    · have e2 : nextE l e f = atZ l e f + sizeS l f.fType := by unfold nextE; rw [if_pos h]
      rw [e2] at ih
      rw [if_pos h, List.singleton_append, e2]
      have hs := sizeS_bounds hne f.fType
      have hb := by_bd l f
      have hl := line_bd h0 hb.1
      unfold okL at h
      refine ⟨⟨?_, h.1, hs.1, h.2, fun h2 h3 => ?_, fun h2 => ?_⟩, ih⟩
      · unfold atZ; exact hl.1
      · have hby : byZ l f = sizeS l f.fType := by unfold byZ; dsimp only at h2 h3; omega
        unfold atZ
        dsimp only at h2 h3 ⊢
        rw [← hby]
        exact hl.2.2
      · have hby : byZ l f = 8 := by unfold byZ; dsimp only at h2; omega
        unfold atZ
        dsimp only
        rw [← hby]
        rw [hby]
        rw [hby] at hl
        exact hl.2.2
    · have e2 : nextE l e f = e := by unfold nextE; rw [if_neg h]
      rw [if_neg h, List.nil_append, e2]
      exact gat_good hne fs e h0 h1
theorem lay_good {l : List TypeD} {x : Int} : goodL 0 (layA l x) := by
  by_cases h : layP l x
  · rw [(lay_in h).2]
    exact gat_good h.1.1.1 _ 0 (by omega) (by omega)
  · rw [(lay_out h).2]
    trivial
theorem gatL_pre (l : List TypeD) : ∀ (fs gs : List FieldD) (e : Int), ∃ rest, gatL l e (fs ++ gs) = gatL l e fs ++ rest
  | [], gs, e => ⟨gatL l e gs, rfl⟩
  | f :: fs, gs, e => by
    obtain ⟨r, hr⟩ := gatL_pre l fs gs (nextE l e f)
    exact ⟨r, by show oneP l e f ++ gatL l (nextE l e f) (fs ++ gs) = (oneP l e f ++ gatL l (nextE l e f) fs) ++ r; rw [hr, List.append_assoc]⟩
theorem layB_p {l : List TypeD} {x : Int} (h : layB l x = true) : layP l x := by
  by_cases hp : layP l x
  · exact hp
  · rw [(lay_out hp).1] at h; cases h
/-- The layout of what it extends is ahead of that of a record. -/
theorem lay_pre {l : List TypeD} {x y : Int} (h : layB l x = true) (hy : kindZ l y = 5) (hd : ∃ rest, downZ l x = downZ l y ++ rest) : layB l y = true ∧ ∃ rest, layA l x = layA l y ++ rest := by
  have hp := layB_p h
  obtain ⟨rest, hd⟩ := hd
  have hq : layP l y := ⟨⟨hp.1.1, hy⟩, allL_pre l (downZ l y) rest 0 (by rw [← hd]; exact hp.2)⟩
  refine ⟨(lay_in hq).1, ?_⟩
  rw [(lay_in hp).2, (lay_in hq).2, hd]
  exact gatL_pre l _ _ 0
theorem lay_base {l : List TypeD} {x : Int} (h : layB l x = true) : ∃ k : Nat, x = (k : Int) ∧ ∃ hk : k < l.length, l[k].fBase = -1 ∨ (0 ≤ l[k].fBase ∧ layB l l[k].fBase = true ∧ ∃ rest, layA l x = layA l l[k].fBase ++ rest) := by
  have hp := layB_p h
  obtain ⟨k, rfl, hk, h5⟩ := kind5 hp.1.2
  refine ⟨k, rfl, hk, ?_⟩
  rcases hp.1.1.1.base hk h5 with hb | hb
  · exact .inl hb
  · have hr := kindZ_range (l := l) (x := l[k].fBase) (by omega)
    have hd := down_cons hp.1.1 hp.1.2
    rw [baseZ_in hk] at hd
    obtain ⟨h1, h2⟩ := lay_pre h hb ⟨_, hd⟩
    exact .inr ⟨hr.1, h1, h2⟩
theorem eqPlc (f : PlaceD) (W : World) : (Op.equalIn 10000 31 (.agg #[.string f.fName, .int .i64 f.fAt, .int .i64 f.fSize]) (.agg #[.string f.fName, .int .i64 f.fAt, .int .i64 f.fSize])).run Try.prog W = .ok true W := by
  have h := eqThree Try.underlying31 (by kernel_rfl) (by decide) (by decide) (by decide) rfl rfl rfl rfl rfl rfl Try.underlying9 Try.underlying3 9998 f.fName f.fName f.fAt f.fAt f.fSize f.fSize W
  rw [show (10000 : Nat) = 9998 + 1 + 1 from rfl, h]
  simp
/-- What extends a record is no smaller. -/
theorem sum_more {l : List TypeD} (hne : near l) (ps : List Int) (x : Int) : sizeS l x ≤ sumZ (sizeS l) (x :: ps) := by
  have hb := fun x => sizeS_bounds hne x
  have h := fold_bounds (b := 1000000001) hb ps (0 + sizeS l x)
  unfold sumZ
  simp only [List.map_cons, List.foldl_cons]
  omega
theorem size_up {l : List TypeD} (hg : good l) {x : Int} (h5 : kindZ l x = 5) (hb : kindZ l (baseZ l x) = 5) : sizeS l (baseZ l x) ≤ sizeS l x := by
  obtain ⟨k, rfl, hk, h5'⟩ := kind5 h5
  rw [baseZ_in hk] at hb ⊢
  have hbd := sizeS_bounds hg.1 l[k].fBase
  have hr := kindZ_range (l := l) (x := l[k].fBase) (by omega)
  rw [sizeS_eq hg hk]
  unfold oneS
  rw [if_neg (by omega), if_neg (by omega), if_neg (by omega), if_neg (by omega), Int.mul_one]
  have hin : insideD l[k] = l[k].fBase :: l[k].fFields.map FieldD.fType := by
    unfold insideD partsD
    rw [if_neg (by omega), if_neg (by omega)]
    rfl
  rw [hin]
  have := sum_more hg.1 (l[k].fFields.map FieldD.fType) l[k].fBase
  omega
theorem size_chain {l : List TypeD} (hg : good l) {b : Int} : ∀ (n : Nat) (a : Int), (chain l a).length ≤ n → b ∈ chain l a → sizeS l b ≤ sizeS l a := by
  intro n
  induction n with
  | zero =>
    intro a hn hb
    have h0 : chain l a = [] := List.eq_nil_of_length_eq_zero (by omega)
    rw [h0] at hb
    cases hb
  | succ n ih =>
    intro a hn hb
    have ha : kindZ l a = 5 := by
      by_cases e : kindZ l a = 5
      · exact e
      · rw [chain_end e] at hb; cases hb
    have hless := chain_less hg ha
    rw [chain_cons hg ha] at hb
    rcases List.mem_cons.1 hb with rfl | hb
    · exact Int.le_refl _
    · have hk : kindZ l (baseZ l a) = 5 := by
        by_cases e : kindZ l (baseZ l a) = 5
        · exact e
        · rw [chain_end e] at hb; cases hb
      have h1 := ih (baseZ l a) (by omega) hb
      have h2 := size_up hg ha hk
      omega
end Go.Proofs.Ytlfigpdjhljdnaa
