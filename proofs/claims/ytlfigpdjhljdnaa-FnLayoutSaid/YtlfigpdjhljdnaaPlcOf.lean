
/-
  What is proved: contracts of PlaceOf, the program's and the model's, of slices.Reverse and slices.IndexFunc on places. No condition beside what each theorem states.
-/
import Derived.Test.YtlfigpdjhljdnaaLayJ
namespace Go.Proofs.Ytlfigpdjhljdnaa
open Go.ChangeShapes Go.WideShapes Go.ChangeAt Go.RowKit
set_option maxRecDepth 100000

def zeroP : PlaceD := ⟨ByteArray.empty, 0, 0⟩
/-- What lies at a place when the first k and the last k have changed places. -/
def revP (l : List PlaceD) (k p : Nat) : PlaceD := if p < k ∨ l.length ≤ p + k then l.getD (l.length - 1 - p) zeroP else l.getD p zeroP

set_option maxHeartbeats 8000000 in
theorem iRevPlaces (B : Nat) (v : Value) (l : List PlaceD) (w : World) (hl : l.length ≤ 1000) (hown : OwnP w B v l) :
    Calls Try.prog 42 #[v] w fun e w' => e = .returned (.tuple #[]) ∧ OwnP w' B v l.reverse ∧ w.grownBy w' v.ownBlock := by
  obtain ⟨h0, h1⟩ := hown
  rcases h1 with ⟨rfl, hz⟩ | ⟨g, cap, cur, rfl, hB, hg, hc, hm, hs, ht⟩
  · obtain rfl : l = [] := List.eq_nil_of_length_eq_zero hz
    go_enter Try.func42, Try.ntmps42
    go_wp2_with fail
    go_loopw [2, 3] (fun x y wr => x = .int .i64 0 ∧ y = .int .i64 (-1) ∧ wr = w) (fun _ _ _ => 0)
    case atStart => exact ⟨rfl, rfl, rfl⟩
    case round =>
      obtain ⟨rfl, rfl, rfl⟩ := hrel
      go_wp2_with fail
      go_end0
      exact ⟨rfl, OwnP.nil, ⟨rfl, rfl, rfl, Nat.le_refl _, fun _ _ _ => rfl⟩⟩
  · have hX : Box w g 31 cur := hg
    have hfl := flatN_len plcCells 3 plc_len l
    have Hcur := Lib.hid (show ∀ p, p < l.length → ∀ j, j < 3 → cur[p * 3 + j]? = (plcCells (revP l 0 p))[j]? from fun p hp j hj => by
      have e : (cur.toList.take (l.length * 3))[p * 3 + j]? = (l.flatMap plcCells)[p * 3 + j]? := by rw [ht]
      rw [List.getElem?_take, if_pos (by omega), flatN_at plcCells 3 plc_len l p hp j hj, Array.getElem?_toList] at e
      rw [e]
      unfold revP
      rw [if_neg (by omega), List.getD_eq_getElem?_getD, List.getElem?_eq_getElem hp]
      rfl)
    have X0 := Lib.hid hX
    have hgl := hX.lt
    clear hX hg ht h0
    go_enter Try.func42, Try.ntmps42
    go_wp2_with fail
    go_loopw [2, 3] (fun x y wr => ∃ (k : Nat) (arr : Array Value), x = .int .i64 k ∧ y = .int .i64 ((l.length : Int) - 1 - k) ∧ 2 * k ≤ l.length + 1 ∧ Box wr g 31 arr ∧ arr.size = cap * 3 ∧ (∀ p, p < l.length → ∀ j, j < 3 → arr[p * 3 + j]? = (plcCells (revP l k p))[j]?) ∧ Only g w wr) (fun x _ _ => l.length - (intOf x).toNat)
    case atStart => exact ⟨0, cur, rfl, by simp, by omega, X0.out, hs, Hcur.out, Only.refl _ _⟩
    case round =>
      obtain ⟨k, arr, rfl, rfl, hk, hx, hsz, hat, hgr⟩ := hrel
      have X := Lib.hid hx
      have Hat := Lib.hid hat
      have Hgr := Lib.hid hgr
      clear hx hat hgr
      by_cases hlt : k + k + 1 < l.length
      · obtain ⟨j, hj⟩ : ∃ j, j + k + 1 = l.length := ⟨l.length - 1 - k, by omega⟩
        have hjz : (l.length : Int) - 1 - k = (j : Int) := by omega
        have ra : revP l k k = l.getD k zeroP := by unfold revP; rw [if_neg (by omega)]
        have rb : revP l k j = l.getD j zeroP := by unfold revP; rw [if_neg (by omega)]
        have ca := fun i (hi : i < 3) => (X.out.cell (k * 3 + i)).trans (Hat.out k (by omega) i hi)
        have cb := fun i (hi : i < 3) => (X.out.cell (j * 3 + i)).trans (Hat.out j (by omega) i hi)
        rw [ra] at ca
        rw [rb] at cb
        have hkj : k ≠ j := by omega
        have Hnx := Lib.hid (show ∀ p, p < l.length → ∀ i, i < 3 → (putL (putL arr (k * 3) (plcCells (l.getD j zeroP))) (j * 3) (plcCells (l.getD k zeroP)))[p * 3 + i]? = (plcCells (revP l (k + 1) p))[i]? from fun p hp i hi => by
          by_cases e1 : p = j
          · subst e1
            rw [putL_new _ _ _ _ (by rw [plc_len]; exact hi) (by rw [putL_size, plc_len]; omega)]
            unfold revP
            rw [if_pos (by omega), show l.length - 1 - p = k by omega]
          · have h2 : (putL (putL arr (k * 3) (plcCells (l.getD j zeroP))) (j * 3) (plcCells (l.getD k zeroP)))[p * 3 + i]? = (putL arr (k * 3) (plcCells (l.getD j zeroP)))[p * 3 + i]? := by
              by_cases h : p < j
              · exact putL_old _ _ _ _ (by omega)
              · exact putL_far _ _ _ _ (by rw [plc_len]; omega)
            rw [h2]
            by_cases e2 : p = k
            · subst e2
              rw [putL_new _ _ _ _ (by rw [plc_len]; exact hi) (by rw [plc_len]; omega)]
              unfold revP
              rw [if_pos (by omega), show l.length - 1 - p = j by omega]
            · have h3 : (putL arr (k * 3) (plcCells (l.getD j zeroP)))[p * 3 + i]? = arr[p * 3 + i]? := by
                by_cases h : p < k
                · exact putL_old _ _ _ _ (by omega)
                · exact putL_far _ _ _ _ (by rw [plc_len]; omega)
              rw [h3, Hat.out p hp i hi]
              unfold revP
              by_cases h : p < k ∨ l.length ≤ p + k
              · rw [if_pos h, if_pos (by omega)]
              · rw [if_neg h, if_neg (by omega)])
        rw [hjz]
        clear hjz ra rb
        generalize l.getD k zeroP = za at *
        generalize l.getD j zeroP = zb at *
        have a0 : _ = some (Value.string za.fName) := ca 0 (by decide)
        have a1 : _ = some (Value.int .i64 za.fAt) := ca 1 (by decide)
        have a2 : _ = some (Value.int .i64 za.fSize) := ca 2 (by decide)
        have b0 : _ = some (Value.string zb.fName) := cb 0 (by decide)
        have b1 : _ = some (Value.int .i64 zb.fAt) := cb 1 (by decide)
        have b2 : _ = some (Value.int .i64 zb.fSize) := cb 2 (by decide)
        simp only [Nat.add_zero] at a0 b0
        have fr := X.out.free
        have hk1 : (k : Int) < (j : Int) := by omega
        have hjl : (j : Int) < (l.length : Int) := by omega
        clear ca cb
        go_wp2_with fail
        go_region
        have X2 : Hid (Box ((((((wr.setCell ⟨g, k * 3, none⟩ (.string zb.fName)).setCell ⟨g, k * 3 + 1, none⟩ (.int .i64 zb.fAt)).setCell ⟨g, k * 3 + 2, none⟩ (.int .i64 zb.fSize)).setCell ⟨g, j * 3, none⟩ (.string za.fName)).setCell ⟨g, j * 3 + 1, none⟩ (.int .i64 za.fAt)).setCell ⟨g, j * 3 + 2, none⟩ (.int .i64 za.fSize)).drew g 31 (putL (putL arr (k * 3) (plcCells zb)) (j * 3) (plcCells za))) := Lib.hid ((Box.setL (plcCells za) (j * 3) (Box.setL (plcCells zb) (k * 3) X.out)).drew)
        have G2 := Lib.hid ((Only.setL (plcCells za) (j * 3) (Only.setL (plcCells zb) (k * 3) Hgr.out)).drew)
        have hsz2 : (putL (putL arr (k * 3) (plcCells zb)) (j * 3) (plcCells za)).size = cap * 3 := by rw [putL_size, putL_size]; exact hsz
        have G3 : Hid (Only g w ((((((wr.setCell ⟨g, k * 3, none⟩ (.string zb.fName)).setCell ⟨g, k * 3 + 1, none⟩ (.int .i64 zb.fAt)).setCell ⟨g, k * 3 + 2, none⟩ (.int .i64 zb.fSize)).setCell ⟨g, j * 3, none⟩ (.string za.fName)).setCell ⟨g, j * 3 + 1, none⟩ (.int .i64 za.fAt)).setCell ⟨g, j * 3 + 2, none⟩ (.int .i64 za.fSize)).drew) := G2
        clear a0 a1 a2 b0 b1 b2 fr G2
        generalize ((((((wr.setCell ⟨g, k * 3, none⟩ (.string zb.fName)).setCell ⟨g, k * 3 + 1, none⟩ (.int .i64 zb.fAt)).setCell ⟨g, k * 3 + 2, none⟩ (.int .i64 zb.fSize)).setCell ⟨g, j * 3, none⟩ (.string za.fName)).setCell ⟨g, j * 3 + 1, none⟩ (.int .i64 za.fAt)).setCell ⟨g, j * 3 + 2, none⟩ (.int .i64 za.fSize)).drew = w3 at *
        generalize putL (putL arr (k * 3) (plcCells zb)) (j * 3) (plcCells za) = arr2 at *
        go_wp2_with fail
        exact ⟨⟨k + 1, arr2, by congr 1, by congr 1; omega, by omega, X2.out, hsz2, Hnx.out, G3.out⟩, by simp [intOf]; omega⟩
      · have Hr := Lib.hid (show ∀ p, p < l.length → ∀ i, i < 3 → arr[p * 3 + i]? = (plcCells (l.getD (l.length - 1 - p) zeroP))[i]? from fun p hp i hi => by
          rw [Hat.out p hp i hi]
          unfold revP
          by_cases h : p < k ∨ l.length ≤ p + k
          · rw [if_pos h]
          · rw [if_neg h, show l.length - 1 - p = p by omega])
        have hnl : ¬ ((k : Int) < (l.length : Int) - 1 - k) := by omega
        go_wp2_with fail
        go_end0
        have hrl := flatN_len plcCells 3 plc_len l.reverse
        refine ⟨rfl, ⟨hrl, .inr ⟨g, cap, arr, by rw [List.length_reverse], hB, X.out, by simpa using hc, hm, hsz, ?_⟩⟩, Hgr.out⟩
        rw [List.length_reverse] at hrl ⊢
        apply List.ext_getElem?
        intro q
        rw [List.getElem?_take]
        by_cases hq : q < l.length * 3
        · have hp : q / 3 < l.length := by omega
          have hi : q % 3 < 3 := Nat.mod_lt _ (by decide)
          have e := flatN_at plcCells 3 plc_len l.reverse (q / 3) (by simpa using hp) (q % 3) hi
          have e2 := Hr.out (q / 3) hp (q % 3) hi
          rw [show q / 3 * 3 + q % 3 = q by omega] at e e2
          have e3 : l.getD (l.length - 1 - q / 3) zeroP = l[l.length - 1 - q / 3] := by rw [List.getD_eq_getElem?_getD, List.getElem?_eq_getElem (by omega)]; rfl
          rw [if_pos hq, Array.getElem?_toList, e2, e, List.getElem_reverse, e3]
        · rw [if_neg hq, List.getElem?_eq_none (by omega)]
end Go.Proofs.Ytlfigpdjhljdnaa
