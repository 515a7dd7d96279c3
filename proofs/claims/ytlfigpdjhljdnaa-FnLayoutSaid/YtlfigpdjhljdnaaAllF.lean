
/-
  What is proved: contracts of AllFields, the program's and the model's: all fields of a record, those of the record farthest behind ahead of all; a contract of slices.Reverse on numbers. No condition beside what each theorem states.
-/
import Derived.Test.YtlfigpdjhljdnaaFldR
import Derived.Test.YtlfigpdjhljdnaaDeep
import Derived.Test.YtlfigpdjhljdnaaFieldOf
namespace Go.Proofs.Ytlfigpdjhljdnaa
open Go.ChangeShapes Go.WideShapes Go.ChangeAt Go.RowKit
set_option maxRecDepth 100000

/-- What lies at a place when the first k and the last k have changed places. -/
def revAt (l : List Int) (k p : Nat) : Int := if p < k ∨ l.length ≤ p + k then l.getD (l.length - 1 - p) 0 else l.getD p 0

set_option maxHeartbeats 4000000 in
theorem iRevInts (B : Nat) (v : Value) (l : List Int) (w : World) (hl : l.length ≤ 1000) (hown : OwnInts w B v l) :
    Calls Try.prog 88 #[v] w fun e w' => e = .returned (.tuple #[]) ∧ OwnInts w' B v l.reverse ∧ w.grownBy w' v.ownBlock := by
  obtain ⟨h0, h1⟩ := hown
  rcases h1 with ⟨rfl, hz⟩ | ⟨g, cap, cur, rfl, hB, hg, hc, hm, hs, ht⟩
  · obtain rfl : l = [] := List.eq_nil_of_length_eq_zero hz
    go_enter Try.func88, Try.ntmps88
    go_wp2_with fail
    go_loopw [2, 3] (fun x y wr => x = .int .i64 0 ∧ y = .int .i64 (-1) ∧ wr = w) (fun _ _ _ => 0)
    case atStart => exact ⟨rfl, rfl, rfl⟩
    case round =>
      obtain ⟨rfl, rfl, rfl⟩ := hrel
      go_wp2_with fail
      go_end0
      exact ⟨rfl, OwnInts.nil, ⟨rfl, rfl, rfl, Nat.le_refl _, fun _ _ _ => rfl⟩⟩
  · have hX : Box w g 3 cur := hg
    have Hcur := Lib.hid (show ∀ p, p < l.length → cur[p]? = some (.int .i64 (revAt l 0 p)) from fun p hp => by
      have e : (cur.toList.take (l.length * 1))[p]? = (l.map (Value.int .i64))[p]? := by rw [ht]
      rw [List.getElem?_take, if_pos (by omega), List.getElem?_map, List.getElem?_eq_getElem hp, Array.getElem?_toList] at e
      rw [e]
      unfold revAt
      rw [if_neg (by omega), List.getD_eq_getElem?_getD, List.getElem?_eq_getElem hp]
      rfl)
    have X0 := Lib.hid hX
    have hgl := hX.lt
    clear hX hg ht h0
    go_enter Try.func88, Try.ntmps88
    go_wp2_with fail
    go_loopw [2, 3] (fun x y wr => ∃ (k : Nat) (arr : Array Value), x = .int .i64 k ∧ y = .int .i64 ((l.length : Int) - 1 - k) ∧ 2 * k ≤ l.length + 1 ∧ Box wr g 3 arr ∧ arr.size = cap * 1 ∧ (∀ p, p < l.length → arr[p]? = some (.int .i64 (revAt l k p))) ∧ w.grownBy wr (some g)) (fun x _ _ => l.length - (intOf x).toNat)
    case atStart => exact ⟨0, cur, rfl, by simp, by omega, X0.out, hs, Hcur.out, ⟨rfl, rfl, rfl, Nat.le_refl _, fun _ _ _ => rfl⟩⟩
    case round =>
      obtain ⟨k, arr, rfl, rfl, hk, hx, hsz, hat, hgr⟩ := hrel
      have X := Lib.hid hx
      have Hat := Lib.hid hat
      have Hgr := Lib.hid hgr
      clear hx hat hgr
      by_cases hlt : k + k + 1 < l.length
      · obtain ⟨j, hj⟩ : ∃ j, j + k + 1 = l.length := ⟨l.length - 1 - k, by omega⟩
        have hjz : (l.length : Int) - 1 - k = (j : Int) := by omega
        have ca := (X.out.cell k).trans (Hat.out k (by omega))
        have cb := (X.out.cell j).trans (Hat.out j (by omega))
        have ra : revAt l k k = l.getD k 0 := by unfold revAt; rw [if_neg (by omega)]
        have rb : revAt l k j = l.getD j 0 := by unfold revAt; rw [if_neg (by omega)]
        rw [ra] at ca
        rw [rb] at cb
        have fa := X.out.free k
        have fb := X.out.free j
        have hkj : k ≠ j := by omega
        have Hnx := Lib.hid (show ∀ p, p < l.length → ((arr.setIfInBounds k (.int .i64 (l.getD j 0))).setIfInBounds j (.int .i64 (l.getD k 0)))[p]? = some (.int .i64 (revAt l (k + 1) p)) from fun p hp => by
          rw [Array.getElem?_setIfInBounds, Array.getElem?_setIfInBounds, Array.size_setIfInBounds]
          by_cases e1 : j = p
          · subst e1
            rw [if_pos rfl, if_pos (by omega)]
            unfold revAt
            rw [if_pos (by omega), show l.length - 1 - j = k by omega]
          · rw [if_neg e1]
            by_cases e2 : k = p
            · subst e2
              rw [if_pos rfl, if_pos (by omega)]
              unfold revAt
              rw [if_pos (by omega), show l.length - 1 - k = j by omega]
            · rw [if_neg e2, Hat.out p hp]
              unfold revAt
              by_cases h : p < k ∨ l.length ≤ p + k
              · rw [if_pos h, if_pos (by omega)]
              · rw [if_neg h, if_neg (by omega)])
        have Hj := Lib.hid hj
        rw [hjz]
        clear hjz ra rb
        generalize l.getD k 0 = za at *
        generalize l.getD j 0 = zb at *
        have hk1 : (k : Int) < (j : Int) := by omega
        have hjl : (j : Int) < (l.length : Int) := by omega
        go_wp2_with fail
        go_region
        have X2 := Lib.hid (((X.out.set k (.int .i64 zb)).set j (.int .i64 za)).drew)
        have G2 := Lib.hid ((((show Only g w wr from Hgr.out).set k (.int .i64 zb)).set j (.int .i64 za)).drew)
        have hsz2 : ((arr.setIfInBounds k (Value.int .i64 zb)).setIfInBounds j (Value.int .i64 za)).size = cap * 1 := by simpa using hsz
        clear ca cb fa fb
        generalize ((wr.setCell ⟨g, k, none⟩ (.int .i64 zb)).setCell ⟨g, j, none⟩ (.int .i64 za)).drew = w3 at *
        generalize (arr.setIfInBounds k (Value.int .i64 zb)).setIfInBounds j (Value.int .i64 za) = arr2 at *
        go_wp2_with fail
        exact ⟨⟨k + 1, arr2, by congr 1, by congr 1; omega, by omega, X2.out, hsz2, Hnx.out, G2.out⟩, by simp [intOf]; omega⟩
      · have Hr := Lib.hid (show ∀ p, p < l.length → arr[p]? = some (.int .i64 (l.getD (l.length - 1 - p) 0)) from fun p hp => by
          rw [Hat.out p hp]
          unfold revAt
          by_cases h : p < k ∨ l.length ≤ p + k
          · rw [if_pos h]
          · rw [if_neg h, show l.length - 1 - p = p by omega])
        have hnl : ¬ ((k : Int) < (l.length : Int) - 1 - k) := by omega
        go_wp2_with fail
        go_end0
        refine ⟨rfl, ⟨by simp, .inr ⟨g, cap, arr, by rw [List.length_reverse], hB, X.out, by simpa using hc, hm, hsz, ?_⟩⟩, Hgr.out⟩
        apply List.ext_getElem?
        intro p
        rw [List.getElem?_take]
        by_cases hp : p < l.length
        · rw [if_pos (by simp; omega), Array.getElem?_toList, Hr.out p hp, List.getElem?_map, List.getElem?_reverse hp, List.getD_eq_getElem?_getD, List.getElem?_eq_getElem (by omega)]
          rfl
        · rw [if_neg (by simp; omega), List.getElem?_eq_none (by simp; omega)]

theorem near.brief {l : List TypeD} (h : near l) {n : Nat} (hn : n < l.length) : ∀ f ∈ l[n].fFields, f.fName.size ≤ 10 := by
  intro f hf
  obtain ⟨i, hi, rfl⟩ := List.getElem_of_mem hf
  rcases h.ok n hn with ⟨h3, hb⟩ | ⟨_, ho⟩
  · have h0 : l[n].fFields.length = 0 := hb.2.2.2.1
    omega
  · rcases ho.2 with ⟨_, _, _, q⟩ | ⟨_, _, _, q⟩ | ⟨_, _, _, q⟩
    · omega
    · rcases (q.2.1 i hi hi).1 with q | q
      · exact q.2.1
      · omega
    · omega
theorem allF_app (l : List TypeD) (a b : List Int) : allF l (a ++ b) = allF l a ++ allF l b := by simp [allF]
theorem allF_one (l : List TypeD) (x : Int) : allF l [x] = fieldsZ l x := by simp [allF]
theorem allF_len {l : List TypeD} (h : near l) : ∀ recs : List Int, (allF l recs).length ≤ 6 * recs.length
  | [] => by simp [allF]
  | x :: recs => by
    have h1 := allF_len h recs
    have h2 : (fieldsZ l x).length ≤ 6 := by
      unfold fieldsZ
      split
      · rename_i hx
        exact h.six _ (List.getElem_mem hx.2)
      · simp
    rw [allF_cons, List.length_append, List.length_cons]
    omega
/-- All fields of a record, those of its Base ahead. -/
def downZ (l : List TypeD) (x : Int) : List FieldD := allF l (chain l x).reverse
theorem down_cons {l : List TypeD} (hg : good l) {x : Int} (h : kindZ l x = 5) : downZ l x = downZ l (baseZ l x) ++ fieldsZ l x := by
  unfold downZ
  rw [chain_cons hg h, List.reverse_cons, allF_app, allF_one]
theorem down_end {l : List TypeD} {x : Int} (h : kindZ l x ≠ 5) : downZ l x = [] := by
  unfold downZ
  rw [chain_end h]
  rfl
theorem down_len {l : List TypeD} (hg : good l) (x : Int) : (downZ l x).length ≤ 144 := by
  have h1 := allF_len hg.1 (chain l x).reverse
  have h2 := chain_len hg x
  rw [List.length_reverse] at h1
  unfold downZ
  omega

set_option maxHeartbeats 8000000 in
theorem iFieldsDown (a : Option Addr) (c : Nat) (l : List TypeD) (x : Int) (w : World) (hg : good l) (hx : kindZ l x = 5) (hr : Rows typeS Any w a l) :
    Calls Try.prog 35 #[.slice a l.length c, .int .i64 x] w fun e w' => ∃ v, e = .returned v ∧ OwnF w' w.heap.size v (downZ l x) ∧ Below w.heap.size w w' := by
  have h24 := hg.1.most
  have Hr := Lib.hid hr
  have Hg := Lib.hid hg
  have Hx := Lib.hid hx
  have Hd := Lib.hid (show downZ l x = allF l (chain l x).reverse from rfl)
  have hrl : (chain l x).reverse.length ≤ 24 := by rw [List.length_reverse]; exact chain_len hg x
  have Hck := Lib.hid (fun y (hy : y ∈ (chain l x).reverse) => chain_kind (List.mem_reverse.1 hy))
  clear hr hg hx
  go_enter Try.func35, Try.ntmps35
  go_wp2_with fail
  refine (iBasesFrom a c l x w Hg.out Hx.out Hr.out).mono ?_
  rintro e w1 ⟨v, rfl, hown, hb1⟩
  have hcl := chain_len Hg.out x
  have O1 := Lib.hid hown
  have B1 := Lib.hid hb1
  have hs1 := hb1.size
  have hol := World.ownsRow.lt hown
  obtain ⟨va, vc, hv, _, _⟩ := hown.nums
  clear hown hb1
  subst hv
  go_wp2_with fail
  refine (iRevInts w.heap.size _ (chain l x) w1 (by omega) O1.out).mono ?_
  rintro e w2 ⟨rfl, hown2, hg2⟩
  have B2 := Lib.hid (B1.out.grown hg2 hs1 (fun k hk => (hol k hk).1))
  obtain ⟨a2, c2, hv2, _, hn2⟩ := hown2.nums
  have N2 := Lib.hid hn2
  have R2 := Lib.hid (Hr.out.below B2.out)
  rw [hv2]
  clear hown2 hg2 hn2 hol O1 hv2 hcl
  generalize (chain l x).reverse = recs at *
  go_wp2_with fail
  go_loopw [16, 6] (fun i y wr => ∃ (k : Nat) (fv : Value), i = .int .i64 k ∧ y = fv ∧ k ≤ recs.length ∧ OwnF wr w2.heap.size fv (allF l (recs.take k)) ∧ Below w2.heap.size w2 wr) (fun i _ _ => recs.length - (intOf i).toNat)
  case atStart => exact ⟨0, _, rfl, rfl, by omega, by rw [List.take_zero]; exact OwnF.nil, Below.refl _ _⟩
  case round =>
    obtain ⟨k, fv, rfl, rfl, hk, hown, hbel⟩ := hrel
    have Ho := Lib.hid hown
    have Hbel := Lib.hid hbel
    have hs := hbel.size
    clear hown hbel
    obtain ⟨wo, hwo⟩ : ∃ x, x = wr := ⟨_, rfl⟩
    subst hwo
    by_cases hlt : k < recs.length
    · obtain ⟨b2, o2, rfl, _, g0⟩ := N2.out k hlt
      replace g0 := (Hbel.out.cell (p := ⟨b2, o2 + k, none⟩) (by assumption)).trans g0
      obtain ⟨n, hn, hnl, h5⟩ := kind5 (Hck.out _ (List.getElem_mem hlt))
      have Hnx := Lib.hid (show allF l (recs.take (k + 1)) = allF l (recs.take k) ++ l[n].fFields by rw [List.take_add_one, List.getElem?_eq_getElem hlt, hn]; show allF l (_ ++ [(n : Int)]) = _; rw [allF_app, allF_one, fieldsZ_in hnl])
      have hal := allF_len Hg.out.1 (recs.take k)
      rw [List.length_take, Nat.min_eq_left (by omega)] at hal
      rw [hn] at g0
      have hft := Hg.out.1.six l[n] (List.getElem_mem hnl)
      have Hbr := Lib.hid (Hg.out.1.brief hnl)
      obtain ⟨b, o, a3, c3, rfl, hb1, e0, e1, e2, e3, e4, e5, hrf, _⟩ := type_cells R2.out hnl Hbel.out
      have Hrf := Lib.hid hrf
      clear hrf hn
      generalize l[n] = t at *
      go_wp2_with fail
      refine (iClonedFields a3 c3 t.fFields _ (by omega) (fun f hf => by have := Hbr.out f hf; omega) Hrf.out).mono ?_
      rintro e w3 ⟨a4, c4, rfl, hr4, hb3⟩
      have R4 := Lib.hid hr4
      have B3 := Lib.hid (Hbel.out.trans (hb3.mono Hbel.out.size))
      have O3 := Lib.hid (Ho.out.below hb3)
      have hs3 := B3.out.size
      clear hr4 hb3
      go_wp2_with (at_builtin; refine wpList_pushFs rfl (.tmp 20) (.tmp 26) rfl w2.heap.size _ _ (allF l (recs.take k)) rfl O3.out t.fFields _ _ rfl R4.out (by omega) hs3 ?_)
      intro v' w4 hown4 hg4 hlt4
      have B4 := Lib.hid (B3.out.grown hg4 hs3 (fun k hk => (hlt4 k hk).1))
      rw [← Hnx.out] at hown4
      have O4 := Lib.hid hown4
      clear hown4 hg4 hlt4
      go_wp2_with fail
      exact ⟨⟨k + 1, _, by congr 1, rfl, by omega, O4.out, B4.out⟩, by simp [intOf]; omega⟩
    · have hown2 := Ho.out
      rw [show k = recs.length by omega, List.take_length, ← Hd.out] at hown2
      have O2 := Lib.hid hown2
      clear hown2
      go_wp2_with fail
      go_ret
      exact ⟨_, rfl, O2.out.lower B2.out.size, B2.out.trans (Hbel.out.mono B2.out.size)⟩
end Go.Proofs.Ytlfigpdjhljdnaa
