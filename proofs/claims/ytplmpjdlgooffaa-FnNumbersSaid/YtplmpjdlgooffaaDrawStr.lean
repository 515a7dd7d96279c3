/-
  What is proved: contracts of the model's draws of texts. No condition beside what each theorem states.
-/
import Derived.Test.YtplmpjdlgooffaaDraw
import Derived.Test.YtplmpjdlgooffaaNumBytes
namespace Go.Proofs.Ytplmpjdlgooffaa
open Go.ChangeShapes Go.WideShapes Go.ChangeAt Go.RowKit

/-- The slice at a reads as the texts l. -/
def Strs (w : World) (a : Option Addr) (l : List ByteArray) : Prop := ∀ i, i < l.length → ∃ b o, a = some ⟨b, o, none⟩ ∧ b < w.heap.size ∧ w.cell? ⟨b, o + i, none⟩ = some (.string (l.getD i ByteArray.empty))

theorem Strs.litAt (w : World) (g : Nat) (l : List ByteArray) (t : TypeId) (hg : g = w.heap.size) : Strs (w.alloc (.cells ((l.map Value.string).toArray) t)) (some ⟨g, 0, none⟩) l := fun i hi => by
  subst hg
  exact ⟨w.heap.size, 0, rfl, by simp, by rw [Nat.zero_add, (Box.new w t _).cell]; simp [hi]⟩

/-- What a draw of a text answers, and what it leaves. -/
def DrawnS (R : ByteArray → Prop) (g k : Nat) (w : World) (e : Ending) (w' : World) : Prop := ∃ s : ByteArray, R s ∧ e = .returned (.string s) ∧ Cur w' g k ∧ Only g w w'

set_option maxHeartbeats 1000000 in
theorem cOf (g k : Nat) (a : Option Addr) (c : Nat) (l : List ByteArray) (w : World) (hk : k ≤ 999990) (hl : 1 ≤ l.length) (hl2 : l.length ≤ 1000) (hc : Cur w g k) (hr : Strs w a l) (hne : ∀ b o, a = some ⟨b, o, none⟩ → b ≠ g) :
    Calls Try.prog 55 #[.pointer (some ⟨g, 0, none⟩), .slice a l.length c] w (DrawnS (fun n => n ∈ l) g (k + 2) w) := by
  have Hc := Lib.hid hc
  have Hr := Lib.hid hr
  have Hne := Lib.hid hne
  clear hc hr hne
  go_enter Try.func55, Try.ntmps55
  go_wp2_with fail
  refine (cPick g k (l.length : Int) _ hk (by omega) (by omega) Hc.out).mono ?_
  rintro e w1 ⟨x, ⟨hx0, hx1⟩, rfl, hc1, ho1⟩
  obtain ⟨i, rfl⟩ := Int.eq_ofNat_of_zero_le hx0
  have hi : i < l.length := by omega
  obtain ⟨b, o, rfl, hb1, hc2⟩ := Hr.out i hi
  have e1 : w1.cell? ⟨b, o + i, none⟩ = some (.string (l.getD i ByteArray.empty)) := (World.cell?_of_block (a := ⟨b, o + i, none⟩) (ho1.block b hb1 (fun e => by injection e with e; exact Hne.out b o rfl e))).trans hc2
  have Hm : Hid (l.getD i ByteArray.empty ∈ l) := by show _ ∈ _; simp [List.getD, hi]
  have Hc1 := Lib.hid hc1
  have Ho1 := Lib.hid ho1
  clear hc1 ho1 hc2 Hr Hne
  generalize l.getD i ByteArray.empty = y at *
  go_wp2_with fail
  go_ret
  exact ⟨y, Hm.out, rfl, Hc1.out, Ho1.out⟩

/-- of, from a literal row of short texts that has just been made. -/
theorem cOfLit (g k : Nat) (l : List ByteArray) (M b : Nat) (w : World) (hk : k ≤ 999990) (hl : 1 ≤ l.length) (hl2 : l.length ≤ 1000) (hc : Cur w g k) (hM : ∀ s ∈ l, s.size ≤ M) (hb : b = w.heap.size) :
    Calls Try.prog 55 #[.pointer (some ⟨g, 0, none⟩), .slice (some ⟨b, 0, none⟩) l.length l.length] (w.alloc (.cells ((l.map Value.string).toArray) 9)) (DrawnS (fun s => s.size ≤ M) g (k + 2) w) := by
  have hg := hc.lt
  refine (cOf g k _ _ l _ hk hl hl2 (hc.below ((Below.refl w.heap.size w).alloc (Nat.le_refl _) _) hg) (Strs.litAt w b l _ hb) (fun b' o e => by injection e with e; injection e with e; omega)).mono ?_
  rintro e w1 ⟨s, hs, rfl, hc1, ho1⟩
  exact ⟨s, hM s hs, rfl, hc1, ((Only.refl g w).alloc _).trans ho1⟩

set_option maxHeartbeats 1000000 in
theorem cName (g k : Nat) (w : World) (hk : k ≤ 999990) (hc : Cur w g k) :
    Calls Try.prog 65 #[.pointer (some ⟨g, 0, none⟩)] w (DrawnS (fun s => s.size ≤ 10) g (k + 2) w) := by
  have Hc := Lib.hid hc
  clear hc
  go_enter Try.func65, Try.ntmps65
  go_wp2_with fail
  refine (cOfLit g k [⟨#[65]⟩, ⟨#[98]⟩, ⟨#[84]⟩, ⟨#[120, 49]⟩, ⟨#[82, 101, 99]⟩, ⟨#[78, 101, 120, 116]⟩, ⟨#[81]⟩, ⟨#[97, 98, 99, 100, 101, 102, 103, 104, 105, 106]⟩] 10 _ _ hk (by decide) (by decide) Hc.out (by decide) rfl).mono ?_
  rintro e w1 ⟨s, hs, rfl, hc1, ho1⟩
  have Hc1 := Lib.hid hc1
  have Ho1 := Lib.hid ho1
  clear hc1 ho1
  go_wp2_with fail
  go_ret
  exact ⟨s, hs, rfl, Hc1.out, Ho1.out⟩

/-- What a draw of a text answers. -/
def StrDrawn (M : Nat) (w : World) (e : Ending) (w' : World) : Prop := ∃ s : ByteArray, s.size ≤ M ∧ e = .returned (.string s) ∧ Below w.heap.size w w'

set_option maxHeartbeats 1000000 in
theorem dNameBytes (a : Option Addr) (len cap : Nat) (w : World) (h : Code w a len) : Calls Try.prog 28 #[.slice a len cap] w (StrDrawn 11 w) := by
  have H := Lib.hid h
  clear h
  go_enter Try.func28, Try.ntmps28
  go_wp2_with fail
  refine (cOfLit _ 0 [⟨#[65]⟩, ⟨#[97, 98, 99, 100, 101, 102, 103, 104, 105, 106]⟩, ⟨#[97, 98, 99, 100, 101, 102, 103, 104, 105, 106, 107]⟩, ⟨#[]⟩, ⟨#[49, 97]⟩, ⟨#[97, 49]⟩, ⟨#[97, 32, 98]⟩, ⟨#[90]⟩] 11 _ _ (by decide) (by decide) (by decide) H.out.cur (by decide) (by simp)).mono ?_
  rintro e w1 ⟨s, hs, rfl, hc1, ho1⟩
  have Ho1 := Lib.hid ho1
  clear hc1 ho1
  go_wp2_with fail
  go_ret
  exact ⟨s, hs, rfl, freshOnly Ho1.out⟩

theorem dGoodName (a : Option Addr) (len cap : Nat) (w : World) (h : Code w a len) : Calls Try.prog 35 #[.slice a len cap] w (StrDrawn 11 w) := by
  have H := Lib.hid h
  clear h
  go_enter Try.func35, Try.ntmps35
  go_wp2_with fail
  refine (dNameBytes _ _ _ _ H.out).mono ?_
  rintro e w1 ⟨s, hs, rfl, hb⟩
  have Hb := Lib.hid hb
  clear hb
  go_wp2_with fail
  go_ret
  exact ⟨s, hs, rfl, Hb.out⟩

theorem cutHead (s : ByteArray) (i : Nat) (hi : i ≤ s.size) (W : World) : (Instr.slice 9 (.string s) none (some (.int .i64 (i : Int))) none).run Try.prog W = .ok (.string (s.extract 0 i)) W := by
  have h := run_slice_string_h (P := Try.prog) W 9 s Try.underlying9 .i64 (i : Int) (by omega) (by omega)
  rw [h, show ((i : Int)).toNat = i by omega]

theorem cutTail (s : ByteArray) (i : Nat) (n : Int) (hn : n = i) (hi : i ≤ s.size) (W : World) : (Instr.slice 9 (.string s) (some (.int .i64 n)) none none).run Try.prog W = .ok (.string (s.extract i s.size)) W := by
  have h := run_slice_string_l (P := Try.prog) W 9 s Try.underlying9 .i64 n (by omega) (by omega)
  rw [h, show n.toNat = i by omega]

set_option maxRecDepth 100000 in
set_option maxHeartbeats 4000000 in
theorem cSpoilt (g k : Nat) (t wi : ByteArray) (w : World) (hk : k ≤ 900000) (ht : t.size ≤ 10000) (hw : 1 ≤ wi.size) (hw2 : wi.size ≤ 100) (hc : Cur w g k) :
    Calls Try.prog 54 #[.pointer (some ⟨g, 0, none⟩), .string t, .string wi] w (DrawnS (fun s => s.size ≤ t.size + 2) g (k + 20) w) := by
  have Hc := Lib.hid hc
  have hg := hc.lt
  clear hc
  go_enter Try.func54, Try.ntmps54
  go_wp2_with fail
  refine (cPick g k 2 _ (by omega) (by decide) (by decide) Hc.out).mono ?_
  rintro e w1 ⟨x, ⟨hx0, hx1⟩, rfl, hc1, ho1⟩
  obtain ⟨N, rfl⟩ := Int.eq_ofNat_of_zero_le hx0
  have hN : N ≤ 1 := by omega
  have Hc1 := Lib.hid hc1
  have Ho1 := Lib.hid ho1
  clear hc1 ho1 hx0 hx1 Hc
  go_wp2_with fail
  go_loopw [1, 7] (fun tv nv wr => ∃ (m : Nat) (s : ByteArray), tv = .string s ∧ nv = .int .i64 m ∧ m ≤ 2 ∧ s.size + m ≤ t.size + 2 ∧ Cur wr g (k + 2 + 6 * (2 - m)) ∧ Only g w wr) (fun _ nv _ => (intOf nv).toNat)
  case atStart => exact ⟨1 + N, t, rfl, by congr 1, by omega, by omega, Hc1.out.more (by omega), Ho1.out⟩
  case round =>
    clear Hc1 Ho1
    obtain ⟨m, s, rfl, rfl, hm2, hsz, hc, ho⟩ := hrel
    have Hc := Lib.hid hc
    have Ho := Lib.hid ho
    clear hc ho
    by_cases hpos : 0 < m
    · by_cases hs0 : 0 < s.size
      · have d1 : decide (0 < (m : Int)) = true := by simp; omega
        have d2 : decide (0 < (s.size : Int)) = true := by simp; omega
        go_wp2_with fail
        refine (cPick g _ (s.size : Int) _ ?_ (by omega) (by omega) Hc.out).mono ?_
        · omega
        rintro e w2 ⟨y, ⟨hy0, hy1⟩, rfl, hc2, ho2⟩
        obtain ⟨i, rfl⟩ := Int.eq_ofNat_of_zero_le hy0
        have Hc2 := Lib.hid hc2
        have Ho2 := Lib.hid (Ho.out.trans ho2)
        clear hc2 ho2
        go_wp2_with fail
        refine (cPick g _ (wi.size : Int) _ ?_ (by omega) (by omega) Hc2.out).mono ?_
        · omega
        rintro e w3 ⟨y, ⟨hz0, hz1⟩, rfl, hc3, ho3⟩
        obtain ⟨j, rfl⟩ := Int.eq_ofNat_of_zero_le hz0
        have hj : j < wi.size := by omega
        have Hc3 := Lib.hid hc3
        have Ho3 := Lib.hid (Ho2.out.trans ho3)
        have kc := conv1
        clear hc3 ho3
        go_wp2_with fail
        refine (cPick g _ 3 _ ?_ (by decide) (by decide) (Hc3.out.below ((Below.refl w3.heap.size w3).alloc (Nat.le_refl _) _) Hc3.out.lt)).mono ?_
        · omega
        rintro e w4 ⟨y, ⟨hq0, hq1⟩, rfl, hc4, ho4⟩
        have Hc4 := Lib.hid hc4
        have Ho4 := Lib.hid ((Ho3.out.alloc _).trans ho4)
        clear hc4 ho4 kc
        obtain ⟨c1, hc1⟩ : ∃ c1, c1 = strOfNums [((wi[j]).toNat : Int)] := ⟨_, rfl⟩
        have hcs : c1.size = 1 := by rw [hc1, strOfNums_size]; rfl
        rw [← hc1]
        clear hc1
        have hcs2 : c1.size ≤ 1 := by omega
        have k1 := fun W => cutHead s i (by omega) W
        have k2 := fun W => cutTail s i (i : Int) rfl (by omega) W
        have k3 := fun W => cutTail s (i + 1) ((i : Int) + 1) (by omega) (by omega) W
        obtain ⟨p, hp⟩ : ∃ p, p = s.extract 0 i := ⟨_, rfl⟩
        obtain ⟨q, hq⟩ : ∃ q, q = s.extract i s.size := ⟨_, rfl⟩
        obtain ⟨r, hr⟩ : ∃ r, r = s.extract (i + 1) s.size := ⟨_, rfl⟩
        have hps : p.size = i := by rw [hp, ByteArray.size_extract]; omega
        have hqs : q.size = s.size - i := by rw [hq, ByteArray.size_extract]; omega
        have hrs : r.size = s.size - (i + 1) := by rw [hr, ByteArray.size_extract]; omega
        rw [← hp] at k1
        rw [← hq] at k2
        rw [← hr] at k3
        clear hp hq hr
        have Hps := Lib.hid hps
        have Hqs := Lib.hid hqs
        have Hrs := Lib.hid hrs
        have z1 : ¬ 9223372036854775807 < p.size + c1.size := by omega
        have z2 : ¬ 9223372036854775807 < (p ++ c1).size + q.size := by rw [ByteArray.size_append]; omega
        have z3 : ¬ 9223372036854775807 < (p ++ c1).size + r.size := by rw [ByteArray.size_append]; omega
        have z4 : ¬ 9223372036854775807 < p.size + r.size := by omega
        have s1 : IntKind.i64.wrap ((i : Int) + 1) = (i : Int) + 1 := IntWalk.i64_in _ (by omega)
        have Z1 : Hid ((p ++ c1 ++ q).size + (m - 1) ≤ t.size + 2) := by show _ ≤ _; rw [ByteArray.size_append, ByteArray.size_append]; omega
        have Z2 : Hid ((p ++ c1 ++ r).size + (m - 1) ≤ t.size + 2) := by show _ ≤ _; rw [ByteArray.size_append, ByteArray.size_append]; omega
        have Z3 : Hid ((p ++ r).size + (m - 1) ≤ t.size + 2) := by show _ ≤ _; rw [ByteArray.size_append]; omega
        clear hps hqs hrs hcs
        by_cases h0 : y = 0
        · have b0 : (y == 0) = true := beq_iff_eq.2 h0
          clear h0
          go_wp2_with fail
          go_quiet (fail)
          go_wp2_with fail
          exact ⟨⟨m - 1, p ++ c1 ++ q, rfl, by congr 1; omega, by omega, Z1.out, (Hc4.out.below (belowN (Below.refl (g + 1) _) _) (by omega)).more (by omega), Ho4.out.drewN _⟩, by simp [intOf]; omega⟩
        · by_cases h1 : y = 1
          · have b0 : (y == 0) = false := beq_eq_false_iff_ne.2 h0
            have b1 : (y == 1) = true := beq_iff_eq.2 h1
            clear h0 h1
            go_wp2_with fail
            go_quiet (fail)
            go_wp2_with fail
            exact ⟨⟨m - 1, p ++ c1 ++ r, rfl, by congr 1; omega, by omega, Z2.out, (Hc4.out.below (belowN (Below.refl (g + 1) _) _) (by omega)).more (by omega), Ho4.out.drewN _⟩, by simp [intOf]; omega⟩
          · have b0 : (y == 0) = false := beq_eq_false_iff_ne.2 h0
            have b1 : (y == 1) = false := beq_eq_false_iff_ne.2 h1
            clear h0 h1
            go_wp2_with fail
            go_quiet (fail)
            go_wp2_with fail
            exact ⟨⟨m - 1, p ++ r, rfl, by congr 1; omega, by omega, Z3.out, (Hc4.out.below (belowN (Below.refl (g + 1) _) _) (by omega)).more (by omega), Ho4.out.drewN _⟩, by simp [intOf]; omega⟩
      · have d1 : decide (0 < (m : Int)) = true := by simp; omega
        have d2 : decide (0 < (s.size : Int)) = false := decide_eq_false (by omega)
        go_wp2_with fail
        go_ret
        exact ⟨s, by omega, rfl, Hc.out.more (by omega), Ho.out⟩
    · have d1 : decide (0 < (m : Int)) = false := by simp; omega
      go_wp2_with fail
      go_ret
      exact ⟨s, by omega, rfl, Hc.out.more (by omega), Ho.out⟩

/-- What a draw of a text and a place answers. -/
def PlaceDrawn (w : World) (e : Ending) (w' : World) : Prop := ∃ (s : ByteArray) (n : Int), s.size ≤ 100 ∧ e = .returned (.tuple #[.string s, .int .i64 n]) ∧ Below w.heap.size w w'

theorem nbytes_size (s : ByteArray) : (nbytes s).size = s.size + 1 := by unfold nbytes; rw [ByteArray.size_append, strOfNums_size]; simp; omega

set_option maxRecDepth 100000 in
set_option maxHeartbeats 2000000 in
theorem dReadName (a : Option Addr) (len cap : Nat) (w : World) (h : Code w a len) : Calls Try.prog 33 #[.slice a len cap] w (PlaceDrawn w) := by
  have H := Lib.hid h
  clear h
  go_enter Try.func33, Try.ntmps33
  go_wp2_with fail
  refine (cName _ 0 _ (by decide) H.out.cur).mono ?_
  rintro e w1 ⟨x, hx, rfl, hc1, ho1⟩
  have Hc1 := Lib.hid hc1
  have Ho1 := Lib.hid ho1
  clear hc1 ho1
  go_wp2_with fail
  refine (sl1NameBytes x _ hx).mono ?_
  rintro e w2 ⟨rfl, hb2⟩
  have Hc2 := Lib.hid (Hc1.out.below hb2 Hc1.out.lt)
  have Ho2 := Lib.hid (Ho1.out.trans (Only.ofBelow hb2))
  have hxs : (nbytes x).size ≤ 11 := by rw [nbytes_size]; omega
  generalize nbytes x = t at *
  clear hb2
  go_wp2_with fail
  refine (cOne _ 2 3 _ (by decide) (by decide) (by decide) Hc2.out).mono ?_
  rintro e w3 ⟨b, rfl, hc3, ho3⟩
  have Hc3 := Lib.hid hc3
  have Ho3 := Lib.hid (Ho2.out.trans ho3)
  clear hc3 ho3
  cases b
  · go_wp2_with fail
    refine (cOfLit _ 4 [⟨#[]⟩, ⟨#[97]⟩] 1 _ _ (by decide) (by decide) (by decide) Hc3.out (by decide) rfl).mono ?_
    rintro e w4 ⟨p, hp, rfl, hc4, ho4⟩
    have Hc4 := Lib.hid hc4
    have Ho4 := Lib.hid (Ho3.out.trans ho4)
    have z1 : ¬ 9223372036854775807 < p.size + t.size := by omega
    clear hc4 ho4
    go_wp2_with fail
    refine (cOfLit _ 6 [⟨#[]⟩, ⟨#[98]⟩] 1 _ _ (by decide) (by decide) (by decide) Hc4.out (by decide) rfl).mono ?_
    rintro e w5 ⟨q, hq, rfl, hc5, ho5⟩
    have Hc5 := Lib.hid hc5
    have Ho5 := Lib.hid (Ho4.out.trans ho5)
    have z2 : ¬ 9223372036854775807 < (p ++ t).size + q.size := by rw [ByteArray.size_append]; omega
    have Z : Hid ((p ++ t ++ q).size ≤ 100) := by show _ ≤ _; rw [ByteArray.size_append, ByteArray.size_append]; omega
    clear hc5 ho5
    go_wp2_with fail
    refine (cPick _ 8 2 _ (by decide) (by decide) (by decide) Hc5.out).mono ?_
    rintro e w6 ⟨y, ⟨hy0, hy1⟩, rfl, hc6, ho6⟩
    have Ho6 := Lib.hid (Ho5.out.trans ho6)
    clear hc6 ho6
    go_wp2_with fail
    go_ret2
    exact ⟨_, y, Z.out, rfl, freshOnly Ho6.out⟩
  · go_wp2_with fail
    refine (cSpoilt _ 4 t ⟨#[0, 1, 3, 97, 49]⟩ _ (by decide) (by omega) (by decide) (by decide) Hc3.out).mono ?_
    rintro e w35 ⟨u, hu, rfl, hc35, ho35⟩
    have Hc35 := Lib.hid hc35
    have Ho35 := Lib.hid (Ho3.out.trans ho35)
    clear hc35 ho35
    go_wp2_with fail
    refine (cOfLit _ 24 [⟨#[]⟩, ⟨#[97]⟩] 1 _ _ (by decide) (by decide) (by decide) Hc35.out (by decide) rfl).mono ?_
    rintro e w4 ⟨p, hp, rfl, hc4, ho4⟩
    have Hc4 := Lib.hid hc4
    have Ho4 := Lib.hid (Ho35.out.trans ho4)
    have z1 : ¬ 9223372036854775807 < p.size + u.size := by omega
    clear hc4 ho4
    go_wp2_with fail
    refine (cOfLit _ 26 [⟨#[]⟩, ⟨#[98]⟩] 1 _ _ (by decide) (by decide) (by decide) Hc4.out (by decide) rfl).mono ?_
    rintro e w5 ⟨q, hq, rfl, hc5, ho5⟩
    have Hc5 := Lib.hid hc5
    have Ho5 := Lib.hid (Ho4.out.trans ho5)
    have z2 : ¬ 9223372036854775807 < (p ++ u).size + q.size := by rw [ByteArray.size_append]; omega
    have Z : Hid ((p ++ u ++ q).size ≤ 100) := by show _ ≤ _; rw [ByteArray.size_append, ByteArray.size_append]; omega
    clear hc5 ho5
    go_wp2_with fail
    refine (cPick _ 28 2 _ (by decide) (by decide) (by decide) Hc5.out).mono ?_
    rintro e w6 ⟨y, ⟨hy0, hy1⟩, rfl, hc6, ho6⟩
    have Ho6 := Lib.hid (Ho5.out.trans ho6)
    clear hc6 ho6
    go_wp2_with fail
    go_ret2
    exact ⟨_, y, Z.out, rfl, freshOnly Ho6.out⟩

set_option maxRecDepth 100000 in
set_option maxHeartbeats 2000000 in
theorem dReadNum (a : Option Addr) (len cap : Nat) (w : World) (h : Code w a len) : Calls Try.prog 20 #[.slice a len cap] w (PlaceDrawn w) := by
  have H := Lib.hid h
  clear h
  go_enter Try.func20, Try.ntmps20
  go_wp2_with fail
  refine (cWhole _ 0 _ (by decide) H.out.cur).mono ?_
  rintro e w1 ⟨x, ⟨hx0, hx1⟩, rfl, hc1, ho1⟩
  obtain ⟨N, hN⟩ := Int.eq_ofNat_of_zero_le (foldZ_bd hx0 hx1).1
  have HN := Lib.hid hN
  have hN2 : N ≤ 2000000000 := by have := foldZ_bd hx0 hx1; omega
  clear hN
  have Hc1 := Lib.hid hc1
  have Ho1 := Lib.hid ho1
  clear hc1 ho1
  go_wp2_with fail
  refine (sl1NumBytes x N _ hx0 hx1 HN.out).mono ?_
  rintro e w2 ⟨rfl, hb2⟩
  have Hc2 := Lib.hid (Hc1.out.below hb2 Hc1.out.lt)
  have Ho2 := Lib.hid (Ho1.out.trans (Only.ofBelow hb2))
  have hxs : (strOfNums (vb N)).size ≤ 11 := by rw [strOfNums_size]; have := vb_len 4 N (by omega); omega
  generalize strOfNums (vb N) = t at *
  clear hb2
  go_wp2_with fail
  refine (cOne _ 2 3 _ (by decide) (by decide) (by decide) Hc2.out).mono ?_
  rintro e w3 ⟨b, rfl, hc3, ho3⟩
  have Hc3 := Lib.hid hc3
  have Ho3 := Lib.hid (Ho2.out.trans ho3)
  clear hc3 ho3
  cases b
  · go_wp2_with fail
    refine (cOfLit _ 4 [⟨#[]⟩, ⟨#[97]⟩] 1 _ _ (by decide) (by decide) (by decide) Hc3.out (by decide) rfl).mono ?_
    rintro e w4 ⟨p, hp, rfl, hc4, ho4⟩
    have Hc4 := Lib.hid hc4
    have Ho4 := Lib.hid (Ho3.out.trans ho4)
    have z1 : ¬ 9223372036854775807 < p.size + t.size := by omega
    clear hc4 ho4
    go_wp2_with fail
    refine (cOfLit _ 6 [⟨#[]⟩, ⟨#[98]⟩] 1 _ _ (by decide) (by decide) (by decide) Hc4.out (by decide) rfl).mono ?_
    rintro e w5 ⟨q, hq, rfl, hc5, ho5⟩
    have Hc5 := Lib.hid hc5
    have Ho5 := Lib.hid (Ho4.out.trans ho5)
    have z2 : ¬ 9223372036854775807 < (p ++ t).size + q.size := by rw [ByteArray.size_append]; omega
    have Z : Hid ((p ++ t ++ q).size ≤ 100) := by show _ ≤ _; rw [ByteArray.size_append, ByteArray.size_append]; omega
    clear hc5 ho5
    go_wp2_with fail
    refine (cPick _ 8 2 _ (by decide) (by decide) (by decide) Hc5.out).mono ?_
    rintro e w6 ⟨y, ⟨hy0, hy1⟩, rfl, hc6, ho6⟩
    have Ho6 := Lib.hid (Ho5.out.trans ho6)
    clear hc6 ho6
    go_wp2_with fail
    go_ret2
    exact ⟨_, y, Z.out, rfl, freshOnly Ho6.out⟩
  · go_wp2_with fail
    refine (cSpoilt _ 4 t ⟨#[0, 128, 255, 1]⟩ _ (by decide) (by omega) (by decide) (by decide) Hc3.out).mono ?_
    rintro e w35 ⟨u, hu, rfl, hc35, ho35⟩
    have Hc35 := Lib.hid hc35
    have Ho35 := Lib.hid (Ho3.out.trans ho35)
    clear hc35 ho35
    go_wp2_with fail
    refine (cOfLit _ 24 [⟨#[]⟩, ⟨#[97]⟩] 1 _ _ (by decide) (by decide) (by decide) Hc35.out (by decide) rfl).mono ?_
    rintro e w4 ⟨p, hp, rfl, hc4, ho4⟩
    have Hc4 := Lib.hid hc4
    have Ho4 := Lib.hid (Ho35.out.trans ho4)
    have z1 : ¬ 9223372036854775807 < p.size + u.size := by omega
    clear hc4 ho4
    go_wp2_with fail
    refine (cOfLit _ 26 [⟨#[]⟩, ⟨#[98]⟩] 1 _ _ (by decide) (by decide) (by decide) Hc4.out (by decide) rfl).mono ?_
    rintro e w5 ⟨q, hq, rfl, hc5, ho5⟩
    have Hc5 := Lib.hid hc5
    have Ho5 := Lib.hid (Ho4.out.trans ho5)
    have z2 : ¬ 9223372036854775807 < (p ++ u).size + q.size := by rw [ByteArray.size_append]; omega
    have Z : Hid ((p ++ u ++ q).size ≤ 100) := by show _ ≤ _; rw [ByteArray.size_append, ByteArray.size_append]; omega
    clear hc5 ho5
    go_wp2_with fail
    refine (cPick _ 28 2 _ (by decide) (by decide) (by decide) Hc5.out).mono ?_
    rintro e w6 ⟨y, ⟨hy0, hy1⟩, rfl, hc6, ho6⟩
    have Ho6 := Lib.hid (Ho5.out.trans ho6)
    clear hc6 ho6
    go_wp2_with fail
    go_ret2
    exact ⟨_, y, Z.out, rfl, freshOnly Ho6.out⟩

end Go.Proofs.Ytplmpjdlgooffaa
