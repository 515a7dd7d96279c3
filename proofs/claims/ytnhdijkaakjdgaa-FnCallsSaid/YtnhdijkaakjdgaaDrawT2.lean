
/-
  What is proved: the contract of the model's draw of types. No condition beside what the theorem states.
-/
import Derived.Test.YtnhdijkaakjdgaaDrawT1
import Derived.Test.YtnhdijkaakjdgaaMkType
import Derived.Deep.RegionLaw
namespace Go.Proofs.Ytnhdijkaakjdgaa
open Go.ChangeShapes Go.WideShapes Go.ChangeAt Go.RowKit
set_option maxRecDepth 100000

/-- Rows of types that a draw has made. -/
def TRow (B : Nat) (w : World) (v : Value) (l : List TypeD) : Prop := OwnG typeZ 31 B (fun q => B ≤ q) w v l
theorem base_own {w : World} {B : Nat} (hB : B ≤ w.heap.size) : TRow B (w.alloc (.cells baseA 31)) (.slice (some ⟨w.heap.size, 0, none⟩) 3 3) baseD := by
  refine .inr ⟨w.heap.size, 3, baseA, rfl, hB, Box.new w _ _, Nat.le_refl _, by unfold maxLen; decide, rfl, ?_⟩
  have key : ∀ (i : Nat) (cs : List Value) (d : TypeD), typeZAt (fun q => B ≤ q ∧ q ≠ w.heap.size) (w.alloc (.cells baseA 31)) cs d → (∀ j, j < 6 → baseA[0 + i * 6 + j]? = cs[j]?) → ∃ cs, typeZ.At (fun q => B ≤ q ∧ q ≠ w.heap.size) (w.alloc (.cells baseA 31)) cs d ∧ ∀ j, j < typeZ.n → baseA[0 + i * typeZ.n + j]? = cs[j]? := fun i cs d h1 h2 => ⟨cs, h1, h2⟩
  intro i hi _
  have hi3 : i < 3 := hi
  rcases (show i = 0 ∨ i = 1 ∨ i = 2 by omega) with rfl | rfl | rfl
  · exact key 0 [.int .i64 1, .int .i64 0, .int .i64 (-1), .slice none 0 0, .string ⟨#[]⟩, .string bINT] ⟨1, 0, -1, [], ⟨#[]⟩, bINT⟩ ⟨none, 0, rfl, Rows.nil, Nat.le_refl _, fun h => absurd h (Nat.lt_irrefl 0)⟩ (fun j hj => by match j, hj with | 0, _ | 1, _ | 2, _ | 3, _ | 4, _ | 5, _ => rfl)
  · exact key 1 [.int .i64 2, .int .i64 0, .int .i64 (-1), .slice none 0 0, .string ⟨#[]⟩, .string bBOOL] ⟨2, 0, -1, [], ⟨#[]⟩, bBOOL⟩ ⟨none, 0, rfl, Rows.nil, Nat.le_refl _, fun h => absurd h (Nat.lt_irrefl 0)⟩ (fun j hj => by match j, hj with | 0, _ | 1, _ | 2, _ | 3, _ | 4, _ | 5, _ => rfl)
  · exact key 2 [.int .i64 3, .int .i64 0, .int .i64 (-1), .slice none 0 0, .string ⟨#[]⟩, .string bCHAR] ⟨3, 0, -1, [], ⟨#[]⟩, bCHAR⟩ ⟨none, 0, rfl, Rows.nil, Nat.le_refl _, fun h => absurd h (Nat.lt_irrefl 0)⟩ (fun j hj => by match j, hj with | 0, _ | 1, _ | 2, _ | 3, _ | 4, _ | 5, _ => rfl)
theorem base_drawn (n : Nat) : ∀ t ∈ baseD, drawnT n t := by
  intro x hx
  simp only [baseD, List.mem_cons, List.not_mem_nil, or_false] at hx
  rcases hx with rfl | rfl | rfl <;> exact ⟨by decide, by decide, by decide, by simp, fun h => absurd h (by decide)⟩

-- cTypes
set_option maxHeartbeats 32000000 in
theorem cTypes (g k : Nat) (w : World) (hk : k ≤ 900000) (hc : Cur w g k) :
    Calls Try.prog 42 #[.pointer (some ⟨g, 0, none⟩)] w fun e w' => ∃ v l, e = .returned v ∧ TRow w.heap.size w' v l ∧ 3 ≤ l.length ∧ l.length ≤ 9 ∧ (∀ t ∈ l, drawnT l.length t) ∧ Cur w' g (k + 1000) ∧ Only g w w' := by
  have hgw := hc.lt
  have Hc := Lib.hid hc
  clear hc
  go_enter Try.func42, Try.ntmps42
  go_wp2_with fail
  refine (sBaseTypes w).mono ?_
  rintro e w1 ⟨rfl, rfl⟩
  have T1 := Lib.hid (base_own (w := w) (Nat.le_refl _))
  have C1 := Lib.hid (Hc.out.below ((Below.refl w.heap.size w).alloc (Nat.le_refl _) (.cells baseA 31)) hgw)
  have O1 := Lib.hid ((Only.refl g w).alloc (.cells baseA 31))
  have hsz : w.heap.size < (w.alloc (.cells baseA 31)).heap.size := by simp
  go_wp2_with fail
  generalize w.alloc (.cells baseA 31) = w1 at *
  refine (cPick g k 7 _ (by omega) (by omega) (by omega) C1.out).mono ?_
  rintro e w2 ⟨n0, ⟨hn0, hn1⟩, rfl, hc2, ho2⟩
  obtain ⟨n, rfl⟩ := Int.eq_ofNat_of_zero_le hn0
  have C2 := Lib.hid hc2
  have O2 := Lib.hid (O1.out.trans ho2)
  have T2 := Lib.hid (show TRow w.heap.size w2 (.slice (some ⟨w.heap.size, 0, none⟩) 3 3) baseD from OwnG.keep T1.out (fun q hq hl => ho2.block q hl (fun e => by
    injection e with e
    rcases hq with h1 | h1
    · omega
    · have := (OwnG.lt T1.out q h1).1; omega)) ho2.size)
  clear T1 C1 O1 hc2 ho2
  go_wp2_with fail
  go_loopw [3] (fun v wr => ∃ l : List TypeD, TRow w.heap.size wr v l ∧ 3 ≤ l.length ∧ l.length ≤ n + 3 ∧ (∀ t ∈ l, drawnT (n + 3) t) ∧ Cur wr g (k + 2 + 60 * l.length) ∧ Only g w wr) (fun v _ => n + 3 - (match v with | .slice _ m _ => m | _ => 0))
  case atStart => exact ⟨baseD, T2.out, by decide, by show 3 ≤ n + 3; omega, base_drawn _, C2.out.more (by omega), O2.out⟩
  case round =>
    obtain ⟨wp, hwp⟩ : ∃ z, z = wr := ⟨_, rfl⟩
    subst hwp
    obtain ⟨V3, hV3⟩ : ∃ x, x = u3 := ⟨_, rfl⟩
    subst hV3
    obtain ⟨l, htr, hl3, hln, hdr, hcu, hon⟩ := hrel
    obtain ⟨la, lc, rfl, hlc, hlc2, hrows⟩ := OwnG.rows (Q := fun q => w.heap.size ≤ q) htr (fun q hq _ => hq) (fun q hq => (OwnG.lt htr q hq).1)
    have TR := Lib.hid htr
    have RO := Lib.hid hrows
    have DR := Lib.hid hdr
    have CU := Lib.hid hcu
    have ON := Lib.hid hon
    have hsr := hon.size
    clear htr hrows hdr hcu hon
    by_cases hlt : l.length < n + 3
    · go_wp2_with fail
      refine (cPick g _ 3 _ (by omega) (by omega) (by omega) CU.out).mono ?_
      rintro e w3 ⟨x, ⟨hx0, hx1⟩, rfl, hc3, ho3⟩
      have HC3 := Lib.hid hc3
      have HO3 := Lib.hid ho3
      have hs3 := ho3.size
      clear hc3 ho3
      obtain rfl | rfl | rfl : x = 0 ∨ x = 1 ∨ x = 2 := by omega
      · have ST := Lib.hid (show St g w3.heap.size wp #[.int .i64 4, .int .i64 0, .int .i64 (-1), .slice none 0 0, .string ⟨#[]⟩, .string ⟨#[]⟩] (.slice none 0 0) [] (w3.alloc (.cells #[.int .i64 4, .int .i64 0, .int .i64 (-1), .slice none 0 0, .string ⟨#[]⟩, .string ⟨#[]⟩] 31)) (k + 2 + 60 * l.length + 2) from
          ⟨HC3.out.below ((Below.refl _ _).alloc (Nat.le_refl _) _) HC3.out.lt, HO3.out.alloc _, Box.new _ _ _, OwnG.nil, hs3, Nat.lt_of_lt_of_le hgw hsr, fun q h => by simp [Value.ownBlock] at h⟩)
        go_wp2_with fail
        generalize (w3.alloc (.cells #[.int .i64 4, .int .i64 0, .int .i64 (-1), .slice none 0 0, .string ⟨#[]⟩, .string ⟨#[]⟩] 31)) = w4 at *
        refine (cOne g _ 2 _ (by omega) (by omega) (by omega) ST.out.cur).mono ?_
        rintro e w5 ⟨b, rfl, hc5, ho5⟩
        replace ST := Lib.hid (ST.out.pick hc5 ho5)
        clear hc5 ho5
        cases b
        case' false =>
          obtain ⟨W, ow, nm, hW, ST3, how, hnm⟩ : ∃ W ow nm, W = w5 ∧ Hid (St g w3.heap.size wp #[.int .i64 4, .int .i64 0, .int .i64 (-1), .slice none 0 0, .string ow, .string nm] (.slice none 0 0) [] W (k + 2 + 60 * l.length + 6)) ∧ ow.size ≤ 20 ∧ nm.size ≤ 20 := ⟨_, _, _, rfl, Lib.hid ⟨ST.out.cur.more (by omega), ST.out.on, ST.out.box, ST.out.own, ST.out.lo, ST.out.g0, ST.out.ne⟩, by decide, by decide⟩
          subst hW
          have c0 : _ = some (Value.int IntKind.i64 4) := ST3.out.box.cell 0
          clear ST
          go_wp2_with fail
          clear c0
        case' true =>
          go_wp2_with fail
          refine (cOfLit g _ [⟨#[65]⟩, ⟨#[66]⟩] 1 _ _ (by omega) (by decide) (by decide) ST.out.cur (by decide) rfl).mono ?_
          rintro e w6 ⟨s1, hs1, rfl, hc6, ho6⟩
          replace ST := Lib.hid (ST.out.pick hc6 ho6)
          have c4 : _ = some (Value.string ⟨#[]⟩) := ST.out.box.cell 4
          have f4 := ST.out.box.free 4
          clear hc6 ho6
          go_wp2_with fail
          clear c4 f4
          replace ST := Lib.hid (show St g w3.heap.size wp #[.int .i64 4, .int .i64 0, .int .i64 (-1), .slice none 0 0, .string s1, .string ⟨#[]⟩] _ _ _ _ from ST.out.set 4 (.string s1))
          refine (sl1Num _ _ (by omega) (by omega)).mono ?_
          rintro e w7 ⟨s2, hs2, rfl, hb7⟩
          replace ST := Lib.hid (ST.out.below hb7)
          have c0 : _ = some (Value.int IntKind.i64 4) := ST.out.box.cell 0
          have c5 : _ = some (Value.string ⟨#[]⟩) := ST.out.box.cell 5
          have f5 := ST.out.box.free 5
          have hz : ¬ 9223372036854775807 < (⟨#[84]⟩ : ByteArray).size + s2.size := by rw [hs2]; decide
          have Hs2 := Lib.hid hs2
          clear hb7 hs2
          go_wp2_with fail
          have ST2 := Lib.hid (show St g w3.heap.size wp #[.int .i64 4, .int .i64 0, .int .i64 (-1), .slice none 0 0, .string s1, .string ((⟨#[84]⟩ : ByteArray) ++ s2)] _ _ _ _ from ST.out.set 5 (.string ((⟨#[84]⟩ : ByteArray) ++ s2)))
          clear c0 c5 f5 hz ST
          generalize w7.setCell ⟨w3.heap.size, 5, none⟩ (.string ((⟨#[84]⟩ : ByteArray) ++ s2)) = W at *
          obtain ⟨ow, nm, ST3, how, hnm⟩ : ∃ ow nm, Hid (St g w3.heap.size wp #[.int .i64 4, .int .i64 0, .int .i64 (-1), .slice none 0 0, .string ow, .string nm] (.slice none 0 0) [] W (k + 2 + 60 * l.length + 6)) ∧ ow.size ≤ 20 ∧ nm.size ≤ 20 := ⟨s1, _, ST2, by omega, by rw [ByteArray.size_append, Hs2.out]; decide⟩
          clear ST2
        all_goals
          refine (cPick g _ 5 _ (by omega) (by omega) (by omega) ST3.out.cur).mono ?_
          rintro e wx ⟨r, ⟨r0, r1⟩, rfl, hcx, hox⟩
          replace ST3 := Lib.hid (ST3.out.pick hcx hox)
          have cj : _ = some (Value.int IntKind.i64 0) := ST3.out.box.cell 1
          have fj := ST3.out.box.free 1
          clear hcx hox
          go_wp2_with fail
          clear cj fj
          replace ST3 := Lib.hid (show St g w3.heap.size wp #[.int .i64 4, .int .i64 (1 + r), .int .i64 (-1), .slice none 0 0, .string ow, .string nm] _ _ _ _ from ST3.out.set 1 (.int .i64 (1 + r)))
          generalize wx.setCell ⟨w3.heap.size, 1, none⟩ (.int .i64 (1 + r)) = Wr at *
          refine (cPick g _ (l.length : Int) _ (by omega) (by omega) (by omega) ST3.out.cur).mono ?_
          rintro e wx ⟨s, ⟨s0, s1⟩, rfl, hcx, hox⟩
          replace ST3 := Lib.hid (ST3.out.pick hcx hox)
          obtain ⟨c0, c1, c2, c3, c4, c5⟩ := cells6T ST3.out.box
          have fj := ST3.out.box.free 2
          have hsw := ST3.out.on.size
          clear hcx hox
          replace ST3 := Lib.hid (show St g w3.heap.size wp #[.int .i64 4, .int .i64 (1 + r), .int .i64 s, .slice none 0 0, .string ow, .string nm] _ _ _ _ from ST3.out.set 2 (.int .i64 s))
          have HD := Lib.hid (show drawnT (n + 3) ⟨4, (1 + r), s, [], ow, nm⟩ from ⟨Nat.zero_le 3, how, hnm, fun _ h => absurd h (by simp), fun h => absurd h (show ¬ ((4 : Int) = 6) by decide)⟩)
          have KG := Lib.hid ((ST3.out.keepG TR.out hgw).mono (P' := fun q => w.heap.size ≤ q) (fun q hq _ => hq.1))
          have AT := Lib.hid (ST3.out.at_ TR.out hsr 4 (1 + r) s ow nm)
          have hpl := OwnG.lt TR.out
          have CF := Lib.hid (ST3.out.cur.more (k' := k + 2 + 60 * (l.length + 1)) (by omega))
          have OF := Lib.hid (ON.out.trans ST3.out.on)
          obtain ⟨i0, hi, hz0, hz1, hz2⟩ := info_parts infoType
          have Hi := Lib.hid (And.intro hi (And.intro hz0 (And.intro hz1 hz2)))
          clear hi hz0 hz1 hz2
          go_wp2_with (at_builtin; refine wpList_pushG rfl _ _ _ rfl typeZ 31 i0 (.agg #[.int .i64 0, .int .i64 0, .int .i64 0, .slice none 0 0, .string ByteArray.empty, .string ByteArray.empty]) 80 Try.underlying24 ?q1 ?q2 ?q3 ?q4 rfl (by decide) (by omega) w.heap.size (fun q => w.heap.size ≤ q) _ _ l rfl ?q5 ⟨4, (1 + r), s, [], ow, nm⟩ [.int .i64 4, .int .i64 (1 + r), .int .i64 s, .slice none 0 0, .string ow, .string nm] _ _ rfl ?q6 ?q7 ?q8 ?q9 ?q10 ?_)
          case q1 => exact Hi.out.1
          case q2 => exact Hi.out.2.1
          case q3 => exact Hi.out.2.2.1
          case q4 => exact Hi.out.2.2.2
          case q5 => exact KG.out.alloc _
          case q6 =>
            intro j _
            refine Eq.trans ((Box.new' (g := wx.heap.size) _ 31 #[.int .i64 4, .int .i64 (1 + r), .int .i64 s, .slice none 0 0, .string ow, .string nm] (by first | (simp; done) | (simp [World.setCell]; done))).cell j) ?_
            simp
          case q7 => exact typeZ.keep AT.out (fun q _ hq => Below.heap_alloc _ _ q hq) (by simp)
          case q8 =>
            intro y hy
            simp only [List.mem_cons, List.not_mem_nil, or_false] at hy
            rcases hy with rfl | rfl | rfl | rfl | rfl | rfl <;> rfl
          case q9 => omega
          case q10 => simp; omega
          intro v9 w9 hown9 hg9 _
          have OW := Lib.hid ((OF.out.alloc (.cells #[.int .i64 4, .int .i64 (1 + r), .int .i64 s, .slice none 0 0, .string ow, .string nm] 31)).grownB hg9 (fun r hr => (hpl r hr).1))
          have CW := Lib.hid ((CF.out.below ((Below.refl _ _).alloc (Nat.le_refl _) (.cells #[.int .i64 4, .int .i64 (1 + r), .int .i64 s, .slice none 0 0, .string ow, .string nm] 31)) CF.out.lt).grown hg9 (fun r hr => by have := (hpl r hr).1; omega))
          obtain ⟨ra, rc, rfl, _⟩ := OwnG.rows (Q := Any) hown9 (fun _ _ _ => trivial) (fun _ _ => trivial)
          have RW := Lib.hid hown9
          have hd9 : ∀ t ∈ l ++ [(⟨4, (1 + r), s, [], ow, nm⟩ : TypeD)], drawnT (n + 3) t := fun t ht => by
            rcases List.mem_append.1 ht with ht | ht
            · exact DR.out t ht
            · rw [List.mem_singleton.1 ht]
              exact HD.out
          have HD9 := Lib.hid hd9
          clear hown9 hg9 hd9 ST3 KG AT CF OF
          go_wp2_with fail
          exact ⟨⟨_, RW.out, by simp; omega, by simp; omega, HD9.out, by simpa using CW.out, OW.out⟩, by simp; omega⟩
      · apply onceT
        case rest =>
          intro key0
          have key := Lib.hid key0
          clear key0
          have ST := Lib.hid (show St g w3.heap.size wp #[.int .i64 5, .int .i64 0, .int .i64 (-1), .slice none 0 0, .string ⟨#[]⟩, .string ⟨#[]⟩] (.slice none 0 0) [] (w3.alloc (.cells #[.int .i64 5, .int .i64 0, .int .i64 (-1), .slice none 0 0, .string ⟨#[]⟩, .string ⟨#[]⟩] 31)) (k + 2 + 60 * l.length + 2) from
            ⟨HC3.out.below ((Below.refl _ _).alloc (Nat.le_refl _) _) HC3.out.lt, HO3.out.alloc _, Box.new _ _ _, OwnG.nil, hs3, Nat.lt_of_lt_of_le hgw hsr, fun q h => by simp [Value.ownBlock] at h⟩)
          go_wp2_with fail
          generalize (w3.alloc (.cells #[.int .i64 5, .int .i64 0, .int .i64 (-1), .slice none 0 0, .string ⟨#[]⟩, .string ⟨#[]⟩] 31)) = w4 at *
          refine (cOne g _ 2 _ (by omega) (by omega) (by omega) ST.out.cur).mono ?_
          rintro e w5 ⟨b, rfl, hc5, ho5⟩
          replace ST := Lib.hid (ST.out.pick hc5 ho5)
          clear hc5 ho5
          have c0 : _ = some (Value.int IntKind.i64 5) := ST.out.box.cell 0
          go_wp2_with fail
          rotate_left
          · rename_i hb K3 hK3 K2 hK2 K1 hK1 K0 hK0
            clear hb c0
            obtain ⟨W, ow, nm, hW, ST3, how, hnm⟩ : ∃ W ow nm, W = w5 ∧ Hid (St g w3.heap.size wp #[.int .i64 5, .int .i64 0, .int .i64 (-1), .slice none 0 0, .string ow, .string nm] (.slice none 0 0) [] W (k + 2 + 60 * l.length + 6)) ∧ ow.size ≤ 20 ∧ nm.size ≤ 20 := ⟨_, _, _, rfl, Lib.hid ⟨ST.out.cur.more (by omega), ST.out.on, ST.out.box, ST.out.own, ST.out.lo, ST.out.g0, ST.out.ne⟩, by decide, by decide⟩
            rw [← hW]
            clear hW ST
            generalize u24 = x24
            generalize u25 = x25
            generalize u26 = x26
            generalize u27 = x27
            generalize u28 = x28
            generalize u29 = x29
            generalize u30 = x30
            generalize u31 = x31
            generalize u32 = x32
            revert ST3 how hnm
            revert ow nm W
            revert x24 x25 x26 x27 x28 x29 x30 x31 x32
            revert K3 K2 K1 K0
            revert b
            exact key.out
          · clear c0
            refine (cOfLit g _ [⟨#[65]⟩, ⟨#[66]⟩] 1 _ _ (by omega) (by decide) (by decide) ST.out.cur (by decide) rfl).mono ?_
            rintro e w6 ⟨s1, hs1, rfl, hc6, ho6⟩
            replace ST := Lib.hid (ST.out.pick hc6 ho6)
            have c4 : _ = some (Value.string ⟨#[]⟩) := ST.out.box.cell 4
            have f4 := ST.out.box.free 4
            clear hc6 ho6
            go_wp2_with fail
            clear c4 f4
            replace ST := Lib.hid (show St g w3.heap.size wp #[.int .i64 5, .int .i64 0, .int .i64 (-1), .slice none 0 0, .string s1, .string ⟨#[]⟩] _ _ _ _ from ST.out.set 4 (.string s1))
            refine (sl1Num _ _ (by omega) (by omega)).mono ?_
            rintro e w7 ⟨s2, hs2, rfl, hb7⟩
            replace ST := Lib.hid (ST.out.below hb7)
            have c0 : _ = some (Value.int IntKind.i64 5) := ST.out.box.cell 0
            have c5 : _ = some (Value.string ⟨#[]⟩) := ST.out.box.cell 5
            have f5 := ST.out.box.free 5
            have hz : ¬ 9223372036854775807 < (⟨#[84]⟩ : ByteArray).size + s2.size := by rw [hs2]; decide
            have Hs2 := Lib.hid hs2
            clear hb7 hs2
            go_wp2_with fail
            have ST2 := Lib.hid (show St g w3.heap.size wp #[.int .i64 5, .int .i64 0, .int .i64 (-1), .slice none 0 0, .string s1, .string ((⟨#[84]⟩ : ByteArray) ++ s2)] _ _ _ _ from ST.out.set 5 (.string ((⟨#[84]⟩ : ByteArray) ++ s2)))
            clear c0 c5 f5 hz ST
            generalize w7.setCell ⟨w3.heap.size, 5, none⟩ (.string ((⟨#[84]⟩ : ByteArray) ++ s2)) = W at *
            obtain ⟨ow, nm, ST3, how, hnm⟩ : ∃ ow nm, Hid (St g w3.heap.size wp #[.int .i64 5, .int .i64 0, .int .i64 (-1), .slice none 0 0, .string ow, .string nm] (.slice none 0 0) [] W (k + 2 + 60 * l.length + 6)) ∧ ow.size ≤ 20 ∧ nm.size ≤ 20 := ⟨s1, _, ST2, by omega, by rw [ByteArray.size_append, Hs2.out]; decide⟩
            clear ST2
            refine key.out _ _ ?h1 _ ?h2 _ ?h3 _ ?h4 _ _ _ _ _ _ _ _ _ _ _ _ ST3 how hnm
            all_goals assumption
        case heavy =>
          intro b K3 hK3 K2 hK2 K1 hK1 K0 hK0 x24 x25 x26 x27 x28 x29 x30 x31 x32 W ow nm ST3 how hnm
          refine (cPick g _ (l.length : Int) _ (by omega) (by omega) (by omega) ST3.out.cur).mono ?_
          rintro e wx ⟨q0, ⟨q00, q01⟩, rfl, hcx, hox⟩
          replace ST3 := Lib.hid (ST3.out.pick hcx hox)
          clear hcx hox
          obtain ⟨q, rfl⟩ := Int.eq_ofNat_of_zero_le q00
          have hq : q < l.length := by omega
          obtain ⟨b', o, cs, hba, hbB, hb1, hc1, hat⟩ := RO.out q hq
          obtain ⟨xa, xc, rfl, _⟩ := hat
          subst hba
          have e0 := (World.cell?_of_block (a := ⟨b', o + q * 6 + 0, none⟩) (ST3.out.on.block b' hb1 (fun e => by injection e with e; omega))).trans (hc1 0 (by decide))
          simp at e0
          clear hc1
          generalize l[q].fKind = kq at e0
          apply onceT
          case rest =>
            intro key0
            have key := Lib.hid key0
            clear key0
            have c2 : _ = some (Value.int IntKind.i64 (-1)) := ST3.out.box.cell 2
            have f2 := ST3.out.box.free 2
            go_wp2_with fail
            rotate_left
            · rename_i hne K5 hK5 K4 hK4
              clear hne c2 f2
              obtain ⟨WB, bs, hWB, ST5⟩ : ∃ WB bs, WB = wx ∧ Hid (St g w3.heap.size wp #[.int .i64 5, .int .i64 0, .int .i64 bs, .slice none 0 0, .string ow, .string nm] (.slice none 0 0) [] WB (k + 2 + 60 * l.length + 6 + 2)) := ⟨_, _, rfl, ST3⟩
              rw [← hWB]
              clear hWB
              generalize u64 = x64
              generalize u65 = x65
              revert ST5
              revert WB bs
              revert x64 x65
              revert K5 K4
              exact key.out
            · have ST4 := Lib.hid (show St g w3.heap.size wp #[.int .i64 5, .int .i64 0, .int .i64 (q : Int), .slice none 0 0, .string ow, .string nm] _ _ _ _ from ST3.out.set 2 (.int .i64 (q : Int)))
              generalize wx.setCell ⟨w3.heap.size, 2, none⟩ (.int .i64 (q : Int)) = WB at *
              obtain ⟨bs, ST5⟩ : ∃ bs, Hid (St g w3.heap.size wp #[.int .i64 5, .int .i64 0, .int .i64 bs, .slice none 0 0, .string ow, .string nm] (.slice none 0 0) [] WB (k + 2 + 60 * l.length + 6 + 2)) := ⟨_, ST4⟩
              refine key.out _ ?g1 _ ?g2 _ _ _ _ ST5
              all_goals assumption
          case heavy =>
            clear ST3 e0
            intro K5 hK5 K4 hK4 x64 x65 WB bs ST5
            refine (cPick g _ 4 _ (by omega) (by omega) (by omega) ST5.out.cur).mono ?_
            rintro e wy ⟨r, ⟨r0, r1⟩, rfl, hcy, hoy⟩
            replace ST5 := Lib.hid (ST5.out.pick hcy hoy)
            clear hcy hoy
            obtain ⟨m0, rfl⟩ := Int.eq_ofNat_of_zero_le r0
            go_wp2_with fail
            go_loopw [7] (fun y wl => ∃ (m : Nat) (fv : Value) (fs : List FieldD), y = .int .i64 m ∧ m ≤ 3 ∧ fs.length + m ≤ 3 ∧ St g w3.heap.size wp #[.int .i64 5, .int .i64 0, .int .i64 bs, fv, .string ow, .string nm] fv fs wl (k + 2 + 60 * l.length + 10 + 10 * (3 - m)) ∧ (∀ f ∈ fs, f.fName.size ≤ 20)) (fun y _ => (intOf y).toNat)
            case atStart => exact ⟨m0, .slice none 0 0, [], rfl, by omega, by show 0 + m0 ≤ 3; omega, ⟨ST5.out.cur.more (by omega), ST5.out.on, ST5.out.box, ST5.out.own, ST5.out.lo, ST5.out.g0, ST5.out.ne⟩, fun _ h => absurd h (by simp)⟩
            case round =>
              obtain ⟨wl, hwl⟩ : ∃ z, z = wr := ⟨_, rfl⟩
              subst hwl
              obtain ⟨m, fv, fs, rfl, hm3, hfm, hst, hfn⟩ := hrel
              have ST3 := Lib.hid hst
              have HFN := Lib.hid hfn
              clear hst hfn ST5
              by_cases hm0 : 0 < m
              · go_wp2_with fail
                have hsl := ST3.out.on.size
                have hlo := ST3.out.lo
                have d0 : _ = some fv := ST3.out.box.cell 3
                have mk : Hid True := Lib.hid trivial
                obtain ⟨j0, hj, hy0, hy1, hy2⟩ := info_parts infoFieldR
                go_region_law (first
                  | (go_simp; go_at_call 77; refine (sl1Num _ _ (by omega) (by omega)).mono ?_; rintro e wa ⟨s1, hs1, rfl, hba⟩; have hbd : Below wl.heap.size wl wa := ⟨hba.os, hba.tape, hba.output, hba.size, hba.block⟩; have STa := Lib.hid (ST3.out.below hbd); have da : _ = some fv := STa.out.box.cell 3; have hz : ¬ 9223372036854775807 < (⟨#[102]⟩ : ByteArray).size + s1.size := (by (rw [hs1]; decide)); have hz2 : ¬ 9223372036854775807 < 1 + s1.size := (by omega); have Hs1 := Lib.hid hs1; clear hba hbd hs1)
                  | (go_simp; go_at_call 19; have mk2 := mk; clear mk; refine (cPick g _ 3 _ (by omega) (by omega) (by omega) STa.out.cur).mono ?_; rintro e wb ⟨p1, ⟨p10, p11⟩, rfl, hcb, hob⟩; have STb := Lib.hid (STa.out.pick hcb hob); have db : _ = some fv := STb.out.box.cell 3; clear hcb hob)
                  | (go_simp; go_at_call 19; refine (cPick g _ (l.length : Int) _ (by omega) (by omega) (by omega) STb.out.cur).mono ?_; rintro e wc ⟨p2, ⟨p20, p21⟩, rfl, hcc, hoc⟩; have STc := Lib.hid (STb.out.pick hcc hoc); have dc : _ = some fv := STc.out.box.cell 3; have dd : ∀ ob, (wc.alloc ob).cell? ⟨w3.heap.size, 3, none⟩ = some fv := (fun ob => (STc.out.alloc ob).box.cell 3); have hsc := STc.out.on.size; clear hcc hoc)
                  | (refine step_pushG rfl _ _ _ rfl fieldS 93 j0 (.agg #[.string ByteArray.empty, .int .i64 0, .int .i64 0]) 32 Try.underlying29 hj hy0 hy1 hy2 rfl (by decide) (by omega) wp.heap.size Nowhere _ _ fs rfl ((STc.out.alloc _).own) ⟨(⟨#[102]⟩ : ByteArray) ++ s1, p1, p2⟩ [.string ((⟨#[102]⟩ : ByteArray) ++ s1), .int .i64 p1, .int .i64 p2] _ _ rfl (fun jj _ => Eq.trans ((Box.new' (g := wc.heap.size) _ 93 #[.string ((⟨#[102]⟩ : ByteArray) ++ s1), .int .i64 p1, .int .i64 p2] (by simp)).cell jj) (by simp)) rfl (fun y hy => by (simp only [List.mem_cons, List.not_mem_nil, or_false] at hy; rcases hy with rfl | rfl | rfl <;> rfl)) (by omega) (by simp; omega) ?_; intro va vn vc w4' hown4 hg4 hv4; have STd := Lib.hid ((STc.out.alloc _).push hown4 hg4 hv4); have de : _ = some fv := STd.out.box.cell 3; have df := STd.out.box.free 3; clear hown4 hg4 hv4))
                all_goals
                  have STe := Lib.hid (show St g w3.heap.size wp #[.int .i64 5, .int .i64 0, .int .i64 bs, .slice va vn vc, .string ow, .string nm] _ _ _ _ from STd.out.set 3 (.slice va vn vc))
                  generalize w4'.setCell ⟨w3.heap.size, 3, none⟩ (.slice va vn vc) = WE at *
                  have HFE := Lib.hid (show ∀ f ∈ fs ++ [(⟨(⟨#[102]⟩ : ByteArray) ++ s1, p1, p2⟩ : FieldD)], f.fName.size ≤ 20 from fun f hf => by
                    rcases List.mem_append.1 hf with hf | hf
                    · exact HFN.out f hf
                    · rw [List.mem_singleton.1 hf]
                      show ((⟨#[102]⟩ : ByteArray) ++ s1).size ≤ 20
                      rw [ByteArray.size_append, Hs1.out]
                      decide)
                  go_wp2_with fail
                  exact ⟨⟨m - 1, .slice va vn vc, _, by congr 1; omega, by omega, by simp; omega, ⟨STe.out.cur.more (by omega), STe.out.on, STe.out.box, STe.out.own, STe.out.lo, STe.out.g0, STe.out.ne⟩, HFE.out⟩, by simp [intOf]; omega⟩
              · obtain rfl : m = 0 := by omega
                obtain ⟨fa, fc, rfl, _, _⟩ := ST3.out.rows
                obtain ⟨c0, c1, c2, c3, c4, c5⟩ := cells6T ST3.out.box
                have hsw := ST3.out.on.size
                have HD := Lib.hid (show drawnT (n + 3) ⟨5, 0, bs, fs, ow, nm⟩ from ⟨by show fs.length ≤ 3; omega, how, hnm, HFN.out, fun h => absurd h (show ¬ ((5 : Int) = 6) by decide)⟩)
                have KG := Lib.hid ((ST3.out.keepG TR.out hgw).mono (P' := fun q => w.heap.size ≤ q) (fun q hq _ => hq.1))
                have AT := Lib.hid (ST3.out.at_ TR.out hsr 5 0 bs ow nm)
                have hpl := OwnG.lt TR.out
                have CF := Lib.hid (ST3.out.cur.more (k' := k + 2 + 60 * (l.length + 1)) (by omega))
                have OF := Lib.hid (ON.out.trans ST3.out.on)
                obtain ⟨i0, hi, hz0, hz1, hz2⟩ := info_parts infoType
                have Hi := Lib.hid (And.intro hi (And.intro hz0 (And.intro hz1 hz2)))
                clear hi hz0 hz1 hz2
                go_wp2_with (at_builtin; refine wpList_pushG rfl _ _ _ rfl typeZ 31 i0 (.agg #[.int .i64 0, .int .i64 0, .int .i64 0, .slice none 0 0, .string ByteArray.empty, .string ByteArray.empty]) 80 Try.underlying24 ?q1 ?q2 ?q3 ?q4 rfl (by decide) (by omega) w.heap.size (fun q => w.heap.size ≤ q) _ _ l rfl ?q5 ⟨5, 0, bs, fs, ow, nm⟩ [.int .i64 5, .int .i64 0, .int .i64 bs, .slice fa fs.length fc, .string ow, .string nm] _ _ rfl ?q6 ?q7 ?q8 ?q9 ?q10 ?_)
                case q1 => exact Hi.out.1
                case q2 => exact Hi.out.2.1
                case q3 => exact Hi.out.2.2.1
                case q4 => exact Hi.out.2.2.2
                case q5 => exact KG.out.alloc _
                case q6 =>
                  intro j _
                  refine Eq.trans ((Box.new' (g := wl.heap.size) _ 31 #[.int .i64 5, .int .i64 0, .int .i64 bs, .slice fa fs.length fc, .string ow, .string nm] (by first | (simp; done) | (simp [World.setCell]; done))).cell j) ?_
                  simp
                case q7 => exact typeZ.keep AT.out (fun q _ hq => Below.heap_alloc _ _ q hq) (by simp)
                case q8 =>
                  intro y hy
                  simp only [List.mem_cons, List.not_mem_nil, or_false] at hy
                  rcases hy with rfl | rfl | rfl | rfl | rfl | rfl <;> rfl
                case q9 => omega
                case q10 => simp; omega
                intro v9 w9 hown9 hg9 _
                have OW := Lib.hid ((OF.out.alloc (.cells #[.int .i64 5, .int .i64 0, .int .i64 bs, .slice fa fs.length fc, .string ow, .string nm] 31)).grownB hg9 (fun r hr => (hpl r hr).1))
                have CW := Lib.hid ((CF.out.below ((Below.refl _ _).alloc (Nat.le_refl _) (.cells #[.int .i64 5, .int .i64 0, .int .i64 bs, .slice fa fs.length fc, .string ow, .string nm] 31)) CF.out.lt).grown hg9 (fun r hr => by have := (hpl r hr).1; omega))
                obtain ⟨ra, rc, rfl, _⟩ := OwnG.rows (Q := Any) hown9 (fun _ _ _ => trivial) (fun _ _ => trivial)
                have RW := Lib.hid hown9
                have hd9 : ∀ t ∈ l ++ [(⟨5, 0, bs, fs, ow, nm⟩ : TypeD)], drawnT (n + 3) t := fun t ht => by
                  rcases List.mem_append.1 ht with ht | ht
                  · exact DR.out t ht
                  · rw [List.mem_singleton.1 ht]
                    exact HD.out
                have HD9 := Lib.hid hd9
                clear hown9 hg9 hd9 ST3 KG AT CF OF
                go_wp2_with fail
                exact ⟨⟨_, RW.out, by simp; omega, by simp; omega, HD9.out, by simpa using CW.out, OW.out⟩, by simp; omega⟩
      · have ST := Lib.hid (show St g w3.heap.size wp #[.int .i64 6, .int .i64 0, .int .i64 (-1), .slice none 0 0, .string ⟨#[]⟩, .string ⟨#[]⟩] (.slice none 0 0) [] (w3.alloc (.cells #[.int .i64 6, .int .i64 0, .int .i64 (-1), .slice none 0 0, .string ⟨#[]⟩, .string ⟨#[]⟩] 31)) (k + 2 + 60 * l.length + 2) from
          ⟨HC3.out.below ((Below.refl _ _).alloc (Nat.le_refl _) _) HC3.out.lt, HO3.out.alloc _, Box.new _ _ _, OwnG.nil, hs3, Nat.lt_of_lt_of_le hgw hsr, fun q h => by simp [Value.ownBlock] at h⟩)
        go_wp2_with fail
        generalize (w3.alloc (.cells #[.int .i64 6, .int .i64 0, .int .i64 (-1), .slice none 0 0, .string ⟨#[]⟩, .string ⟨#[]⟩] 31)) = w4 at *
        refine (cOne g _ 2 _ (by omega) (by omega) (by omega) ST.out.cur).mono ?_
        rintro e w5 ⟨b, rfl, hc5, ho5⟩
        replace ST := Lib.hid (ST.out.pick hc5 ho5)
        clear hc5 ho5
        cases b
        case' false =>
          obtain ⟨W, ow, nm, hW, ST3, how, hnm⟩ : ∃ W ow nm, W = w5 ∧ Hid (St g w3.heap.size wp #[.int .i64 6, .int .i64 0, .int .i64 (-1), .slice none 0 0, .string ow, .string nm] (.slice none 0 0) [] W (k + 2 + 60 * l.length + 6)) ∧ ow.size ≤ 20 ∧ nm.size ≤ 20 := ⟨_, _, _, rfl, Lib.hid ⟨ST.out.cur.more (by omega), ST.out.on, ST.out.box, ST.out.own, ST.out.lo, ST.out.g0, ST.out.ne⟩, by decide, by decide⟩
          subst hW
          have c0 : _ = some (Value.int IntKind.i64 6) := ST3.out.box.cell 0
          clear ST
          go_wp2_with fail
          clear c0
        case' true =>
          go_wp2_with fail
          refine (cOfLit g _ [⟨#[65]⟩, ⟨#[66]⟩] 1 _ _ (by omega) (by decide) (by decide) ST.out.cur (by decide) rfl).mono ?_
          rintro e w6 ⟨s1, hs1, rfl, hc6, ho6⟩
          replace ST := Lib.hid (ST.out.pick hc6 ho6)
          have c4 : _ = some (Value.string ⟨#[]⟩) := ST.out.box.cell 4
          have f4 := ST.out.box.free 4
          clear hc6 ho6
          go_wp2_with fail
          clear c4 f4
          replace ST := Lib.hid (show St g w3.heap.size wp #[.int .i64 6, .int .i64 0, .int .i64 (-1), .slice none 0 0, .string s1, .string ⟨#[]⟩] _ _ _ _ from ST.out.set 4 (.string s1))
          refine (sl1Num _ _ (by omega) (by omega)).mono ?_
          rintro e w7 ⟨s2, hs2, rfl, hb7⟩
          replace ST := Lib.hid (ST.out.below hb7)
          have c0 : _ = some (Value.int IntKind.i64 6) := ST.out.box.cell 0
          have c5 : _ = some (Value.string ⟨#[]⟩) := ST.out.box.cell 5
          have f5 := ST.out.box.free 5
          have hz : ¬ 9223372036854775807 < (⟨#[84]⟩ : ByteArray).size + s2.size := by rw [hs2]; decide
          have Hs2 := Lib.hid hs2
          clear hb7 hs2
          go_wp2_with fail
          have ST2 := Lib.hid (show St g w3.heap.size wp #[.int .i64 6, .int .i64 0, .int .i64 (-1), .slice none 0 0, .string s1, .string ((⟨#[84]⟩ : ByteArray) ++ s2)] _ _ _ _ from ST.out.set 5 (.string ((⟨#[84]⟩ : ByteArray) ++ s2)))
          clear c0 c5 f5 hz ST
          generalize w7.setCell ⟨w3.heap.size, 5, none⟩ (.string ((⟨#[84]⟩ : ByteArray) ++ s2)) = W at *
          obtain ⟨ow, nm, ST3, how, hnm⟩ : ∃ ow nm, Hid (St g w3.heap.size wp #[.int .i64 6, .int .i64 0, .int .i64 (-1), .slice none 0 0, .string ow, .string nm] (.slice none 0 0) [] W (k + 2 + 60 * l.length + 6)) ∧ ow.size ≤ 20 ∧ nm.size ≤ 20 := ⟨s1, _, ST2, by omega, by rw [ByteArray.size_append, Hs2.out]; decide⟩
          clear ST2
        all_goals
          refine (cPick g _ _ _ (by omega) (by omega) (by omega) ST3.out.cur).mono ?_
          rintro e wx ⟨r, ⟨r0, r1⟩, rfl, hcx, hox⟩
          replace ST3 := Lib.hid (ST3.out.pick hcx hox)
          obtain ⟨c0, c1, c2, c3, c4, c5⟩ := cells6T ST3.out.box
          have fj := ST3.out.box.free 2
          have hsw := ST3.out.on.size
          clear hcx hox
          replace ST3 := Lib.hid (show St g w3.heap.size wp #[.int .i64 6, .int .i64 0, .int .i64 (3 + r), .slice none 0 0, .string ow, .string nm] _ _ _ _ from ST3.out.set 2 (.int .i64 (3 + r)))
          have HD := Lib.hid (show drawnT (n + 3) ⟨6, 0, (3 + r), [], ow, nm⟩ from ⟨Nat.zero_le 3, how, hnm, fun _ h => absurd h (by simp), fun _ => ⟨by show 0 ≤ 3 + r; omega, by show 3 + r < ((n + 3 : Nat) : Int); omega⟩⟩)
          have KG := Lib.hid ((ST3.out.keepG TR.out hgw).mono (P' := fun q => w.heap.size ≤ q) (fun q hq _ => hq.1))
          have AT := Lib.hid (ST3.out.at_ TR.out hsr 6 0 (3 + r) ow nm)
          have hpl := OwnG.lt TR.out
          have CF := Lib.hid (ST3.out.cur.more (k' := k + 2 + 60 * (l.length + 1)) (by omega))
          have OF := Lib.hid (ON.out.trans ST3.out.on)
          obtain ⟨i0, hi, hz0, hz1, hz2⟩ := info_parts infoType
          have Hi := Lib.hid (And.intro hi (And.intro hz0 (And.intro hz1 hz2)))
          clear hi hz0 hz1 hz2
          go_wp2_with (at_builtin; refine wpList_pushG rfl _ _ _ rfl typeZ 31 i0 (.agg #[.int .i64 0, .int .i64 0, .int .i64 0, .slice none 0 0, .string ByteArray.empty, .string ByteArray.empty]) 80 Try.underlying24 ?q1 ?q2 ?q3 ?q4 rfl (by decide) (by omega) w.heap.size (fun q => w.heap.size ≤ q) _ _ l rfl ?q5 ⟨6, 0, (3 + r), [], ow, nm⟩ [.int .i64 6, .int .i64 0, .int .i64 (3 + r), .slice none 0 0, .string ow, .string nm] _ _ rfl ?q6 ?q7 ?q8 ?q9 ?q10 ?_)
          case q1 => exact Hi.out.1
          case q2 => exact Hi.out.2.1
          case q3 => exact Hi.out.2.2.1
          case q4 => exact Hi.out.2.2.2
          case q5 => exact KG.out.alloc _
          case q6 =>
            intro j _
            refine Eq.trans ((Box.new' (g := wx.heap.size) _ 31 #[.int .i64 6, .int .i64 0, .int .i64 (3 + r), .slice none 0 0, .string ow, .string nm] (by first | (simp; done) | (simp [World.setCell]; done))).cell j) ?_
            simp
          case q7 => exact typeZ.keep AT.out (fun q _ hq => Below.heap_alloc _ _ q hq) (by simp)
          case q8 =>
            intro y hy
            simp only [List.mem_cons, List.not_mem_nil, or_false] at hy
            rcases hy with rfl | rfl | rfl | rfl | rfl | rfl <;> rfl
          case q9 => omega
          case q10 => simp; omega
          intro v9 w9 hown9 hg9 _
          have OW := Lib.hid ((OF.out.alloc (.cells #[.int .i64 6, .int .i64 0, .int .i64 (3 + r), .slice none 0 0, .string ow, .string nm] 31)).grownB hg9 (fun r hr => (hpl r hr).1))
          have CW := Lib.hid ((CF.out.below ((Below.refl _ _).alloc (Nat.le_refl _) (.cells #[.int .i64 6, .int .i64 0, .int .i64 (3 + r), .slice none 0 0, .string ow, .string nm] 31)) CF.out.lt).grown hg9 (fun r hr => by have := (hpl r hr).1; omega))
          obtain ⟨ra, rc, rfl, _⟩ := OwnG.rows (Q := Any) hown9 (fun _ _ _ => trivial) (fun _ _ => trivial)
          have RW := Lib.hid hown9
          have hd9 : ∀ t ∈ l ++ [(⟨6, 0, (3 + r), [], ow, nm⟩ : TypeD)], drawnT (n + 3) t := fun t ht => by
            rcases List.mem_append.1 ht with ht | ht
            · exact DR.out t ht
            · rw [List.mem_singleton.1 ht]
              exact HD.out
          have HD9 := Lib.hid hd9
          clear hown9 hg9 hd9 ST3 KG AT CF OF
          go_wp2_with fail
          exact ⟨⟨_, RW.out, by simp; omega, by simp; omega, HD9.out, by simpa using CW.out, OW.out⟩, by simp; omega⟩
    · have hll : l.length = n + 3 := by omega
      have Hll := Lib.hid hll
      clear hll
      obtain ⟨rb, ro, rcs, hra, _, _, _, _⟩ := RO.out 0 (by omega)
      subst hra
      have hrb : ro = 0 := by
        rcases TR.out with ⟨h, _⟩ | ⟨b', cap, cur, hv, _⟩
        · cases h
        · injection hv with hv
          injection hv with hv
          injection hv
      subst hrb
      go_wp2_with fail
      go_loopw [93] (fun i wl => ∃ (p : Nat) (m : List TypeD), i = .int .i64 p ∧ p ≤ l.length ∧ m.length = l.length ∧ TRow w.heap.size wl (.slice (some ⟨rb, 0, none⟩) l.length lc) m ∧ (∀ t ∈ m, drawnT (n + 3) t) ∧ Cur wl g (k + 2 + 60 * l.length) ∧ Only g w wl) (fun i _ => l.length - (intOf i).toNat)
      case atStart => exact ⟨0, l, rfl, by omega, rfl, TR.out, DR.out, CU.out, ON.out⟩
      case round =>
        obtain ⟨wl, hwl⟩ : ∃ z, z = wr := ⟨_, rfl⟩
        subst hwl
        obtain ⟨p, m, rfl, hp, hml, htr, hdr, hcu, hon⟩ := hrel
        have HML := Lib.hid hml
        have T2 := Lib.hid htr
        have D2 := Lib.hid hdr
        have C3 := Lib.hid hcu
        have O3 := Lib.hid hon
        clear hml htr hdr hcu hon
        by_cases hlp : p < l.length
        · have hpm : p < m.length := by rw [HML.out]; exact hlp
          obtain ⟨ra, rc, hrv, hrc1, _, hrr⟩ := OwnG.rows (Q := Any) T2.out (fun _ _ _ => trivial) (fun _ _ => trivial)
          obtain ⟨xb, xo, xcs, hxa, _, hxb, hxc, hat⟩ := hrr p hpm
          have hat0 := hat
          have RR := Lib.hid hrr
          obtain ⟨a3, c3, rfl, _⟩ := hat
          injection hrv with hrv1 hrv2 hrv3
          clear hrv2
          subst hrv1 hrv3
          cases hxa
          have hS : typeZ.n = 6 := rfl
          have e0 := hxc 0 (by decide)
          rw [hS, Nat.zero_add] at e0
          have e1 := hxc 1 (by decide)
          rw [hS, Nat.zero_add] at e1
          have e2 := hxc 2 (by decide)
          rw [hS, Nat.zero_add] at e2
          have e3 := hxc 3 (by decide)
          rw [hS, Nat.zero_add] at e3
          have e4 := hxc 4 (by decide)
          rw [hS, Nat.zero_add] at e4
          have e5 := hxc 5 (by decide)
          rw [hS, Nat.zero_add] at e5
          simp at e0 e1 e2 e3 e4 e5
          have hdp := D2.out _ (List.getElem_mem hpm)
          have i1 : (0 : Int) ≤ (p : Int) := by omega
          have i2 : (p : Int) < (l.length : Int) := by omega
          obtain ⟨t, ht⟩ : ∃ t, t = m[p] := ⟨_, rfl⟩
          rw [← ht] at e0 e1 e2 e3 e4 e5 hdp
          obtain ⟨cur, hbox, hrB⟩ := OwnG.boxOf T2.out
          have TA := Lib.hid (OwnG.alloc T2.out (.cells #[.int .i64 t.fKind, .int .i64 t.fLong, .int .i64 t.fBase, .slice a3 t.fFields.length c3, .string t.fOwner, .string t.fName] 31))
          have CA := Lib.hid (C3.out.below ((Below.refl _ _).alloc (Nat.le_refl _) (.cells #[.int .i64 t.fKind, .int .i64 t.fLong, .int .i64 t.fBase, .slice a3 t.fFields.length c3, .string t.fOwner, .string t.fName] 31)) C3.out.lt)
          have OA := Lib.hid (O3.out.alloc (.cells #[.int .i64 t.fKind, .int .i64 t.fLong, .int .i64 t.fBase, .slice a3 t.fFields.length c3, .string t.fOwner, .string t.fName] 31))
          have HT := Lib.hid ht
          have HP := Lib.hid hdp
          have Hb := Lib.hid hbox
          clear hxc hat0 hrr ht hbox
          by_cases h6 : t.fKind = 6
          · obtain ⟨h7, h8⟩ := hdp.2.2.2.2 h6
            obtain ⟨nb, hnb⟩ := Int.eq_ofNat_of_zero_le h7
            have hnl : nb < l.length := by rw [Hll.out]; omega
            have hnm : nb < m.length := by rw [HML.out]; exact hnl
            obtain ⟨yb, yo, ycs, hya, _, hyb, hyc, hyt⟩ := RR.out nb hnm
            obtain ⟨b3, d3, rfl, _⟩ := hyt
            cases hya
            have g0 := hyc 0 (by decide)
            rw [hS, Nat.zero_add] at g0
            simp at g0
            have g1 := fun ob => (World.cell?_alloc_lt wl ob ⟨rb, nb * 6, none⟩ (World.block_lt_of_cell? _ _ g0)).trans g0
            have i3 : (0 : Int) ≤ (nb : Int) := by omega
            have i4 : (nb : Int) < (l.length : Int) := by omega
            have hk6 : (t.fKind == 6) = true := beq_iff_eq.2 h6
            have HB := Lib.hid hnb
            rw [hnb] at e2 TA CA OA
            clear hyc h7 h8 hdp hnb h6
            by_cases hb6 : m[nb].fKind = 6
            · have hb6' : (m[nb].fKind == 6) = true := beq_iff_eq.2 hb6
              have s0 := fun ob => (World.cell?_alloc_lt wl ob ⟨rb, p * 6, none⟩ (World.block_lt_of_cell? _ _ e0)).trans e0
              have s2 := fun ob => (World.cell?_alloc_lt wl ob ⟨rb, p * 6 + 2, none⟩ (World.block_lt_of_cell? _ _ e2)).trans e2
              have f0 := fun ob => (Hb.out.alloc ob).free (p * 6)
              have f2 := fun ob => (Hb.out.alloc ob).free (p * 6 + 2)
              have f4 := Hb.out.free (p * 6)
              have f5 := Hb.out.free (p * 6 + 2)
              have hon2 := ((Only.refl rb wl).set (p * 6) (.int .i64 5)).set (p * 6 + 2) (.int .i64 (-1))
              have TN := Lib.hid (OwnG.alloc (row_setKB T2.out hpm 5 (-1)) (.cells #[.int .i64 t.fKind, .int .i64 t.fLong, .int .i64 (nb : Int), .slice a3 t.fFields.length c3, .string t.fOwner, .string t.fName] 31))
              have CN0 := C3.out.far hon2 (by omega)
              have CN := Lib.hid (CN0.below ((Below.refl _ _).alloc (Nat.le_refl _) (.cells #[.int .i64 t.fKind, .int .i64 t.fLong, .int .i64 (nb : Int), .slice a3 t.fFields.length c3, .string t.fOwner, .string t.fName] 31)) CN0.lt)
              have ONN := Lib.hid ((O3.out.far hon2 hrB).alloc (.cells #[.int .i64 t.fKind, .int .i64 t.fLong, .int .i64 (nb : Int), .slice a3 t.fFields.length c3, .string t.fOwner, .string t.fName] 31))
              clear CN0
              have DN := Lib.hid (show ∀ x ∈ m.set p ⟨5, m[p].fLong, -1, m[p].fFields, m[p].fOwner, m[p].fName⟩, drawnT (n + 3) x from fun x hx => by
                rcases List.mem_or_eq_of_mem_set hx with h | h
                · exact D2.out x h
                · rw [h, ← HT.out]
                  exact ⟨HP.out.1, HP.out.2.1, HP.out.2.2.1, HP.out.2.2.2.1, fun h => absurd h (show ¬ ((5 : Int) = 6) by decide)⟩)
              have LN := Lib.hid (show (m.set p ⟨5, m[p].fLong, -1, m[p].fFields, m[p].fOwner, m[p].fName⟩).length = l.length by rw [List.length_set]; exact HML.out)
              clear hon2 TA CA OA
              generalize m.set p ⟨5, m[p].fLong, -1, m[p].fFields, m[p].fOwner, m[p].fName⟩ = m2 at *
              clear hb6'
              generalize m[nb].fKind = kb at *
              subst hb6
              go_wp2_with fail
              exact ⟨⟨p + 1, m2, by congr 1, by omega, LN.out, TN.out, DN.out, CN.out, ONN.out⟩, by simp [intOf]; omega⟩
            · have hb6' : (m[nb].fKind == 6) = false := beq_eq_false_iff_ne.2 hb6
              generalize m[nb].fKind = kb at *
              clear hb6
              go_wp2_with fail
              exact ⟨⟨p + 1, m, by congr 1, by omega, HML.out, TA.out, D2.out, CA.out, OA.out⟩, by simp [intOf]; omega⟩
          · have hk6 : (t.fKind == 6) = false := beq_eq_false_iff_ne.2 h6
            clear h6 hdp
            go_wp2_with fail
            exact ⟨⟨p + 1, m, by congr 1, by omega, HML.out, TA.out, D2.out, CA.out, OA.out⟩, by simp [intOf]; omega⟩
        · have hm9 : m.length = n + 3 := by rw [HML.out, Hll.out]
          have HM9 := Lib.hid hm9
          clear hm9
          go_wp2_with fail
          go_ret
          exact ⟨_, m, rfl, T2.out, by rw [HM9.out]; omega, by rw [HM9.out]; omega, by rw [HM9.out]; exact D2.out, C3.out.more (by rw [Hll.out]; omega), O3.out⟩
end Go.Proofs.Ytnhdijkaakjdgaa
