/-
  The walks of the exact laws on the texts of values and columns.
-/
import Derived.Test.YtajjmdnbmicefabDoorLc
import Derived.Test.YtajjmdnbmicefabDoorLi
import Derived.Test.YtajjmdnbmicefabDoorTd
import Derived.Test.YtajjmdnbmicefabDoorTf
namespace Go.Proofs.YtajjmdnbmicefabDoor
open Go.RowKit Sets

set_option maxRecDepth 100000 in
theorem exactFormatValue_walk (L : Bool) (a b n : Int) (w : World) (_ : I64 a ∧ I64 b) (hL : LibIs w) :
    Calls Tryd.prog 3 #[colV L a b, .int .i64 n] w fun e w' => e = .returned (.bool true) ∧ Below w.heap.size w w' := by
  obtain ⟨c0, c1, c2⟩ := ColAt.box w L a b 23
  have b0 : Below w.heap.size w (w.alloc (.cells #[.bool L, .int .i64 a, .int .i64 b] 23)) := (Below.refl _ w).alloc (Nat.le_refl _) _
  have P0 := Lib.hid (hL.step b0)
  clear hL
  have hq : (fV L a b n != fV L a b n) = false := by simp
  go_enter Tryd.func3, Tryd.ntmps3
  go_wp2_with fail
  refine (toColumn_any L a b _).mono ?_
  rintro e w1 ⟨rfl, b1⟩
  obtain ⟨d0, d1, d2⟩ := ColAt.below (g := w.heap.size) ⟨c0, c1, c2⟩ b1 (by simp)
  have B1 := b0.trans (b1.mono b0.size)
  have P1 := Lib.hid (P0.out.step b1)
  have z1 := b1.size
  simp at z1
  go_wp2_with fail
  refine (specFV_any L a b n _).mono ?_
  rintro e w2 ⟨rfl, b2⟩
  obtain ⟨e0, e1, e2⟩ := ColAt.below (g := w.heap.size) ⟨d0, d1, d2⟩ b2 (by omega)
  have B2 := B1.trans (b2.mono B1.size)
  have P2 := Lib.hid (P1.out.step b2)
  go_wp2_with fail
  refine (toColumn_any L a b _).mono ?_
  rintro e w3 ⟨rfl, b3⟩
  have B3 := B2.trans (b3.mono B2.size)
  have P3 := Lib.hid (P2.out.step b3)
  go_wp2_with fail
  refine (implFV_any L a b n _ P3.out.1).mono ?_
  rintro e w4 ⟨rfl, b4⟩
  have B4 := B3.trans (b4.mono B3.size)
  go_wp2
  go_ret
  exact ⟨rfl, B4⟩

set_option maxRecDepth 100000 in
theorem exactParseValue_walk (L : Bool) (a b : Int) (s : ByteArray) (w : World) (_ : I64 a ∧ I64 b) (hs : s.size ≤ 9223372036854775807) (hL : LibIs w) :
    Calls Tryd.prog 4 #[colV L a b, .string s] w fun e w' => e = .returned (.bool true) ∧ Below w.heap.size w w' := by
  obtain ⟨c0, c1, c2⟩ := ColAt.box w L a b 23
  have b0 : Below w.heap.size w (w.alloc (.cells #[.bool L, .int .i64 a, .int .i64 b] 23)) := (Below.refl _ w).alloc (Nat.le_refl _) _
  have P0 := Lib.hid (hL.step b0)
  clear hL
  by_cases hn : 1048576 < s.size
  · have hn' : (1048576 : Int) < (s.size : Int) := by omega
    go_enter Tryd.func4, Tryd.ntmps4
    go_wp2
    go_ret
    exact ⟨rfl, b0⟩
  · have hn' : decide ((1048576 : Int) < (s.size : Int)) = false := decide_eq_false (by omega)
    have hs1 : s.size ≤ 1048600 := by omega
    have spc := fun w => specPV_any L a b s hs1 w
    have imp := fun w hp => implPV_any L a b s hs w hp
    generalize hN : pvN L a b s.data.toList = N at spc imp
    generalize hB : pvB L a b s.data.toList = V at spc imp
    have SPC := Lib.hid spc
    have IMP := Lib.hid imp
    clear hN hB spc imp
    have h1 : (N != N) = false := by simp
    have h2 : (V != V) = false := by simp
    go_enter Tryd.func4, Tryd.ntmps4
    go_wp2_with fail
    refine (toColumn_any L a b _).mono ?_
    rintro e w1 ⟨rfl, b1⟩
    obtain ⟨d0, d1, d2⟩ := ColAt.below (g := w.heap.size) ⟨c0, c1, c2⟩ b1 (by simp)
    have B1 := b0.trans (b1.mono b0.size)
    have P1 := Lib.hid (P0.out.step b1)
    have z1 := b1.size
    simp at z1
    go_wp2_with fail
    refine (SPC.out _).mono ?_
    rintro e w2 ⟨rfl, b2⟩
    obtain ⟨e0, e1, e2⟩ := ColAt.below (g := w.heap.size) ⟨d0, d1, d2⟩ b2 (by omega)
    have B2 := B1.trans (b2.mono B1.size)
    have P2 := Lib.hid (P1.out.step b2)
    go_wp2_with fail
    refine (toColumn_any L a b _).mono ?_
    rintro e w3 ⟨rfl, b3⟩
    have B3 := B2.trans (b3.mono B2.size)
    have P3 := Lib.hid (P2.out.step b3)
    go_wp2_with fail
    refine (IMP.out _ P3.out.1).mono ?_
    rintro e w4 ⟨rfl, b4⟩
    have B4 := B3.trans (b4.mono B3.size)
    go_wp2
    go_ret
    exact ⟨rfl, B4⟩
end Go.Proofs.YtajjmdnbmicefabDoor
