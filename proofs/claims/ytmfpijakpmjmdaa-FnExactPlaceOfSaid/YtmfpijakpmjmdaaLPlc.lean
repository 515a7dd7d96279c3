
/-
  What is proved: the walk of the law FnExactPlaceOf. No condition beside what each theorem states.
-/
import Derived.Test.YtmfpijakpmjmdaaLaws3
import Derived.Test.YtmfpijakpmjmdaaPlcOg
namespace Go.Proofs.Ytmfpijakpmjmdaa
open Go.ChangeShapes Go.WideShapes Go.ChangeAt Go.RowKit

-- shell: FnExactPlaceOf
set_option maxHeartbeats 4000000 in
theorem law_FnExactPlaceOf (a : Option Addr) (len cap : Nat) (l : List TypeD) (x : Int) (name : ByteArray) (w : World) (hin : CameIn typeS TypeD.came w a len l) (_ : (Lit.int .i64 x).wf = true) (hname : name.size ≤ maxLen) :
    Calls Try.prog 9 #[.slice a len cap, .int .i64 x, .string name] w fun e w' => e = .returned (.bool true) ∧ Below w.heap.size w w' := by
  obtain ⟨rfl, hl, hr, hc⟩ := hin
  have Hr := Lib.hid hr
  have Hc := Lib.hid hc
  clear hr hc
  have hname2 := hname
  unfold maxLen at hname
  by_cases hbig : 1048576 < name.size
  · go_enter Try.func9, Try.ntmps9
    go_wp2_with fail
    go_ret
    exact ⟨rfl, Below.refl _ _⟩
  go_enter Try.func9, Try.ntmps9
  go_wp2_with fail
  refine (lSzTypeS a cap l _ 1048576 (by omega) (by omega) hl Hc.out Hr.out).mono ?_
  rintro e w1 ⟨r, rfl, hs, hb1⟩
  have B1 := Lib.hid hb1
  clear hb1
  rcases hs with rfl | ⟨h0, h1⟩
  · go_wp2_with fail
    go_ret
    exact ⟨rfl, B1.out⟩
  obtain ⟨hl2, hs, hm⟩ := type_wt (l := l) (by omega)
  have Hs := Lib.hid hs
  have Hm := Lib.hid hm
  clear h1 hs hm
  go_wp2_with fail
  refine (lToTypeS a cap l _ hl2 Hs.out (Hr.out.below B1.out)).mono ?_
  rintro e w2 ⟨rfl, hr2, hb2⟩
  have R2 := Lib.hid hr2.any
  have B2 := Lib.hid (B1.out.trans (hb2.mono B1.out.size))
  clear hr2 hb2
  have Si := Lib.hid (fun (a' : Option Addr) W (hW : Rows typeS Any W a' l) => iPlaceOf a' l.length l x name W hl2 (Nat.le_refl _) hl Hm.out hname2 hW)
  have Ss := Lib.hid (fun (a' : Option Addr) W (hW : Rows typeS Any W a' l) => sPlaceOf a' l.length l x name W hl2 (Nat.le_refl _) hl Hm.out hname2 hW)
  unfold PostPO at Si Ss
  generalize plcA l x name = o at *
  obtain ⟨p, hp⟩ : ∃ p, o.getD zeroP = p := ⟨_, rfl⟩
  obtain ⟨q, hq⟩ : ∃ q, o.isSome = q := ⟨_, rfl⟩
  rw [hp, hq] at Si Ss
  clear hp hq
  go_wp2_with fail
  refine (Ss.out _ _ R2.out).mono ?_
  rintro e w3 ⟨rfl, hb3⟩
  have B3 := Lib.hid (B2.out.trans (hb3.mono B2.out.size))
  clear hb3
  unfold plcV
  go_wp2_with fail
  have X3 := Lib.hid (Box.new w3 47 #[.string p.fName, .int .i64 p.fAt, .int .i64 p.fSize])
  have B3' := Lib.hid (B3.out.alloc B3.out.size (.cells #[.string p.fName, .int .i64 p.fAt, .int .i64 p.fSize] 47))
  generalize w3.alloc (.cells #[.string p.fName, .int .i64 p.fAt, .int .i64 p.fSize] 47) = v3 at *
  refine (lToTypeS a cap l _ hl2 Hs.out (Hr.out.below B3'.out)).mono ?_
  rintro e w4 ⟨rfl, hr4, hb4⟩
  have R4 := Lib.hid hr4.any
  have X4 := Lib.hid (X3.out.below hb4 X3.out.lt)
  have B4 := Lib.hid (B3'.out.trans (hb4.mono B3'.out.size))
  clear hr4 hb4
  go_wp2_with fail
  refine (Si.out _ _ R4.out).mono ?_
  rintro e w5 ⟨rfl, hb5⟩
  have R5 := Lib.hid (R4.out.below hb5)
  have X5 := Lib.hid (X4.out.below hb5 X4.out.lt)
  have B5 := Lib.hid (B4.out.trans (hb5.mono B4.out.size))
  clear hb5
  unfold plcV
  have BA := (Below.refl w5.heap.size w5).alloc (Nat.le_refl _) (.cells #[.string p.fName, .int .i64 p.fAt, .int .i64 p.fSize] 47)
  have Y6 := Lib.hid (Box.new w5 47 #[.string p.fName, .int .i64 p.fAt, .int .i64 p.fSize])
  have X6 := Lib.hid (X5.out.below BA X5.out.lt)
  have R6 := Lib.hid (R5.out.below BA)
  have B6 := Lib.hid (B5.out.trans (BA.mono B5.out.size))
  have x0 : _ = some (Value.string p.fName) := X6.out.cell 0
  have x1 : _ = some (Value.int .i64 p.fAt) := X6.out.cell 1
  have x2 : _ = some (Value.int .i64 p.fSize) := X6.out.cell 2
  clear BA
  go_wp2_with fail
  generalize w5.alloc (.cells #[.string p.fName, .int .i64 p.fAt, .int .i64 p.fSize] 47) = v5 at *
  refine (lEqPlace p _).mono ?_
  rintro e w7 ⟨rfl, hb7⟩
  have R7 := Lib.hid (R6.out.below hb7)
  have B7 := Lib.hid (B6.out.trans (hb7.mono B6.out.size))
  clear hb7 x0 x1 x2
  cases q
  all_goals
    go_wp2_with fail
    refine (lToTypeS a cap l _ hl2 Hs.out (Hr.out.below B7.out)).mono ?_
    rintro e w8 ⟨rfl, hr8, hb8⟩
    have R8 := Lib.hid hr8.any
    have R8' := Lib.hid (R7.out.below hb8)
    have B8 := Lib.hid (B7.out.trans (hb8.mono B7.out.size))
    clear hr8 hb8
    go_wp2_with fail
    refine (lEqTypeS _ _ _ _ l _ hl2 Hs.out R8'.out R8.out).mono ?_
    rintro e w9 ⟨rfl, hb9⟩
    go_wp2_with fail
    go_ret
    exact ⟨rfl, B8.out.trans (hb9.mono B8.out.size)⟩
end Go.Proofs.Ytmfpijakpmjmdaa
