
/-
  What is proved: contracts of the program's knownValue, pairValue, broughtValue and valueOf. No condition beside what each theorem states.
-/
import Derived.Test.YteajdempddklgaaDoorEvB
namespace Go.Proofs.YteajdempddklgaaDoor
open Go.ChangeShapes Go.WideShapes Go.ChangeAt Go.RowKit
set_option maxRecDepth 100000

def faultV (c : Int) : Value := .iface 83 (.agg #[.int .i64 c])
def resV : VR → Value
  | .good v => .tuple #[.int .i64 v, .nilIface]
  | .bad c => .tuple #[.int .i64 0, faultV c]
theorem mul_in {a b : Int} {B : Nat} (ha : wholeP a) (hb : -(B : Int) ≤ b ∧ b ≤ B) : -((1000000000 * B : Nat) : Int) ≤ a * b ∧ a * b ≤ ((1000000000 * B : Nat) : Int) := by
  unfold wholeP at ha
  have h : (a * b).natAbs ≤ 1000000000 * B := by rw [Int.natAbs_mul]; exact Nat.mul_le_mul (by omega) (by omega)
  omega
theorem val_in {j : Nat} {a b : Int} (ha : wholeP a) (hb : wholeP b) : -2000000000000000000 ≤ valZ j a b ∧ valZ j a b ≤ 2000000000000000000 := by
  have hf := floor_in b ha
  have hm := mul_in (B := 1000000000) ha hb
  have hm2 := mul_in (B := 1000000001) (b := floorZ a b) hb (by omega)
  unfold wholeP at ha hb
  match j with
  | 0 => show _ ≤ a + b ∧ a + b ≤ _; omega
  | 1 => show _ ≤ a - b ∧ a - b ≤ _; omega
  | 2 => show _ ≤ a * b ∧ a * b ≤ _; omega
  | 3 => show _ ≤ floorZ a b ∧ floorZ a b ≤ _; omega
  | n + 4 => show _ ≤ a - b * floorZ a b ∧ a - b * floorZ a b ≤ _; omega

theorem known_snoc {l : List KnownD} {k : Nat} (hk : k < l.length) (m n : ByteArray) : (l.take (k + 1)).find? (fun k => knownHit k m n) = ((l.take k).find? (fun k => knownHit k m n)).or (if knownHit l[k] m n then some l[k] else none) := by
  rw [take_snoc hk, List.find?_append]
  congr 1
  simp only [List.find?_cons, List.find?_nil]
  split <;> simp_all
theorem known_first {l : List KnownD} {k : Nat} (hk : k < l.length) {m n : ByteArray} (h : (l.take k).find? (fun k => knownHit k m n) = none) (hh : knownHit l[k] m n = true) : knownV l m n = some l[k].fValue := by
  have h1 := known_snoc hk m n
  rw [h, hh] at h1
  have h2 : l.find? (fun k => knownHit k m n) = (l.take (k + 1) ++ l.drop (k + 1)).find? (fun k => knownHit k m n) := by rw [List.take_append_drop]
  rw [List.find?_append, h1] at h2
  unfold knownV
  rw [h2]
  simp

set_option maxHeartbeats 4000000 in
theorem iKnownValue (a : Option Addr) (c : Nat) (l : List KnownD) (m n : ByteArray) (w : World) (hl : l.length ≤ 1048576) (hr : Rows knownS Any w a l) : Calls Tryd.prog 111 #[.slice a l.length c, .agg #[.string m, .string n]] w fun e w' => e = .returned (resV (nameR l m n)) ∧ Below w.heap.size w w' := by
  have B0 := Lib.hid ((Below.refl w.heap.size w).alloc (Nat.le_refl _) (.cells #[.string m, .string n] 61))
  have X0 := Lib.hid (Box.new w 61 #[.string m, .string n])
  have Hr := Lib.hid hr
  clear hr
  go_enter Tryd.func111, Tryd.ntmps111
  go_wp2_with fail
  go_loopw [10] (fun i wr => ∃ k : Nat, i = .int .i64 k ∧ k ≤ l.length ∧ (l.take k).find? (fun k => knownHit k m n) = none ∧ Box wr w.heap.size 61 #[.string m, .string n] ∧ Below w.heap.size w wr) (fun i _ => l.length - (intOf i).toNat)
  case atStart => exact ⟨0, rfl, by omega, rfl, X0.out, B0.out⟩
  case round =>
    obtain ⟨k, rfl, hk, hno, hx, hbel⟩ := hrel
    have Hno := Lib.hid hno
    have x0 : _ = some (Value.string m) := hx.cell 0
    have x1 : _ = some (Value.string n) := hx.cell 1
    have hx3 := hx.lt
    have X := Lib.hid hx
    clear hno hx
    by_cases hlt : k < l.length
    · obtain ⟨b, o, cs, rfl, _, hb1, hc1, hat⟩ := Hr.out k hlt
      obtain rfl : cs = [.string l[k].fMod, .string l[k].fName, .int .i64 l[k].fValue] := hat
      have e0 := (hbel.cell (p := ⟨b, o + k * 3 + 0, none⟩) hb1).trans (hc1 0 (by decide))
      have e1 := (hbel.cell (p := ⟨b, o + k * 3 + 1, none⟩) hb1).trans (hc1 1 (by decide))
      have e2 := (hbel.cell (p := ⟨b, o + k * 3 + 2, none⟩) hb1).trans (hc1 2 (by decide))
      simp at e0 e1 e2
      have hsz := hbel.size
      have Hbel := Lib.hid hbel
      clear hbel hc1
      have Hy := Lib.hid (fun hh => known_first hlt Hno.out hh)
      have Hs := Lib.hid (known_snoc hlt m n)
      by_cases q1 : (l[k].fMod.toList == m.toList) = true
      · by_cases q2 : (l[k].fName.toList == n.toList) = true
        · have Hv := Lib.hid (Hy.out (by unfold knownHit; rw [q1, q2]; rfl))
          generalize l[k] = z at *
          go_wp2_with fail
          go_ret2
          exact ⟨by unfold nameR; rw [Hv.out]; rfl, Hbel.out.alloc hsz _⟩
        · rw [Bool.not_eq_true] at q2
          have Hn := Lib.hid (show (l.take (k + 1)).find? (fun k => knownHit k m n) = none by rw [Hs.out, Hno.out]; unfold knownHit; rw [q1, q2]; rfl)
          generalize l[k] = z at *
          go_wp2_with fail
          exact ⟨⟨k + 1, by congr 1, by omega, Hn.out, X.out.alloc _, Hbel.out.alloc hsz _⟩, by simp [intOf]; omega⟩
      · rw [Bool.not_eq_true] at q1
        have Hn := Lib.hid (show (l.take (k + 1)).find? (fun k => knownHit k m n) = none by rw [Hs.out, Hno.out]; unfold knownHit; rw [q1]; rfl)
        generalize l[k] = z at *
        go_wp2_with fail
        exact ⟨⟨k + 1, by congr 1, by omega, Hn.out, X.out.alloc _, Hbel.out.alloc hsz _⟩, by simp [intOf]; omega⟩
    · obtain rfl : k = l.length := by omega
      have Hv := Lib.hid (show knownV l m n = none by have h := Hno.out; rw [List.take_length] at h; unfold knownV; rw [h]; rfl)
      have Hbel := Lib.hid hbel
      clear hbel
      go_wp2_with fail
      go_ret2
      exact ⟨by unfold nameR; rw [Hv.out]; rfl, Hbel.out⟩

set_option maxHeartbeats 4000000 in
theorem iPairValue (j : Nat) (hj : j < 5) (a b : Int) (w : World) (ha : wholeP a) (hb : wholeP b) : Calls Tryd.prog 112 #[.int .i64 (opK j), .int .i64 a, .int .i64 b] w fun e w' => e = .returned (resV (pairR j a b)) ∧ w = w' := by
  have hv := val_in (j := j) ha hb
  have Hf := Lib.hid (fun h0 => iFloor a b w ha h0)
  have hfl := floor_in b ha
  have Ha := Lib.hid ha
  have Hb := Lib.hid hb
  unfold wholeP at ha hb
  have Hres := Lib.hid (fun h : ¬ (3 ≤ j ∧ b = 0) => (show pairR j a b = if wholeP (valZ j a b) then .good (valZ j a b) else .bad 3 from if_neg h))
  go_enter Tryd.func112, Tryd.ntmps112
  match j, hj with
  | 0, _ =>
    have hv : -2000000000000000000 ≤ a + b ∧ a + b ≤ 2000000000000000000 := hv
    by_cases hw : wholeP (a + b)
    · have hwb := decide_eq_true hw
      go_wp2_with (go_at_call 77; refine (iWholeAs hwb).mono ?_; rintro e w' ⟨rfl, rfl⟩)
      go_ret2
      exact ⟨by rw [Hres.out (by omega), if_pos (show wholeP (valZ 0 a b) from hw)]; rfl, rfl⟩
    · have hwb := decide_eq_false hw
      go_wp2_with (go_at_call 77; refine (iWholeAs hwb).mono ?_; rintro e w' ⟨rfl, rfl⟩)
      go_ret2
      exact ⟨by rw [Hres.out (by omega), if_neg (show ¬ wholeP (valZ 0 a b) from hw)]; rfl, rfl⟩
  | 1, _ =>
    have hv : -2000000000000000000 ≤ a - b ∧ a - b ≤ 2000000000000000000 := hv
    by_cases hw : wholeP (a - b)
    · have hwb := decide_eq_true hw
      go_wp2_with (go_at_call 77; refine (iWholeAs hwb).mono ?_; rintro e w' ⟨rfl, rfl⟩)
      go_ret2
      exact ⟨by rw [Hres.out (by omega), if_pos (show wholeP (valZ 1 a b) from hw)]; rfl, rfl⟩
    · have hwb := decide_eq_false hw
      go_wp2_with (go_at_call 77; refine (iWholeAs hwb).mono ?_; rintro e w' ⟨rfl, rfl⟩)
      go_ret2
      exact ⟨by rw [Hres.out (by omega), if_neg (show ¬ wholeP (valZ 1 a b) from hw)]; rfl, rfl⟩
  | 2, _ =>
    have hv : -2000000000000000000 ≤ a * b ∧ a * b ≤ 2000000000000000000 := hv
    by_cases hw : wholeP (a * b)
    · have hwb := decide_eq_true hw
      go_wp2_with (go_at_call 77; refine (iWholeAs hwb).mono ?_; rintro e w' ⟨rfl, rfl⟩)
      go_ret2
      exact ⟨by rw [Hres.out (by omega), if_pos (show wholeP (valZ 2 a b) from hw)]; rfl, rfl⟩
    · have hwb := decide_eq_false hw
      go_wp2_with (go_at_call 77; refine (iWholeAs hwb).mono ?_; rintro e w' ⟨rfl, rfl⟩)
      go_ret2
      exact ⟨by rw [Hres.out (by omega), if_neg (show ¬ wholeP (valZ 2 a b) from hw)]; rfl, rfl⟩
  | 3, _ =>
    have hv : -2000000000000000000 ≤ floorZ a b ∧ floorZ a b ≤ 2000000000000000000 := hv
    by_cases h0 : b = 0
    · subst h0
      go_wp2_with fail
      go_ret2
      exact ⟨by unfold pairR; rw [if_pos ⟨by omega, rfl⟩]; rfl, rfl⟩
    · have h0b : (b == 0) = false := beq_eq_false_iff_ne.2 h0
      have hF := Hf.out h0
      by_cases hw : wholeP (floorZ a b)
      · have hwb := decide_eq_true hw
        go_wp2_with (first | (go_at_call 77; refine (iWholeAs hwb).mono ?_; rintro e w' ⟨rfl, rfl⟩) | (go_at_call 141; refine hF.mono ?_; rintro e w' ⟨rfl, rfl⟩))
        go_ret2
        exact ⟨by rw [Hres.out (by omega), if_pos (show wholeP (valZ 3 a b) from hw)]; rfl, rfl⟩
      · have hwb := decide_eq_false hw
        go_wp2_with (first | (go_at_call 77; refine (iWholeAs hwb).mono ?_; rintro e w' ⟨rfl, rfl⟩) | (go_at_call 141; refine hF.mono ?_; rintro e w' ⟨rfl, rfl⟩))
        go_ret2
        exact ⟨by rw [Hres.out (by omega), if_neg (show ¬ wholeP (valZ 3 a b) from hw)]; rfl, rfl⟩
  | 4, _ =>
    have hv : -2000000000000000000 ≤ a - b * floorZ a b ∧ a - b * floorZ a b ≤ 2000000000000000000 := hv
    by_cases h0 : b = 0
    · subst h0
      go_wp2_with fail
      go_ret2
      exact ⟨by unfold pairR; rw [if_pos ⟨by omega, rfl⟩]; rfl, rfl⟩
    · have h0b : (b == 0) = false := beq_eq_false_iff_ne.2 h0
      have hF := Hf.out h0
      by_cases hw : wholeP (a - b * floorZ a b)
      · have hwb := decide_eq_true hw
        go_wp2_with (first | (go_at_call 77; refine (iWholeAs hwb).mono ?_; rintro e w' ⟨rfl, rfl⟩) | (go_at_call 141; refine hF.mono ?_; rintro e w' ⟨rfl, rfl⟩))
        go_ret2
        exact ⟨by rw [Hres.out (by omega), if_pos (show wholeP (valZ 4 a b) from hw)]; rfl, rfl⟩
      · have hwb := decide_eq_false hw
        go_wp2_with (first | (go_at_call 77; refine (iWholeAs hwb).mono ?_; rintro e w' ⟨rfl, rfl⟩) | (go_at_call 141; refine hF.mono ?_; rintro e w' ⟨rfl, rfl⟩))
        go_ret2
        exact ⟨by rw [Hres.out (by omega), if_neg (show ¬ wholeP (valZ 4 a b) from hw)]; rfl, rfl⟩
  | n + 5, h => omega
end Go.Proofs.YteajdempddklgaaDoor
