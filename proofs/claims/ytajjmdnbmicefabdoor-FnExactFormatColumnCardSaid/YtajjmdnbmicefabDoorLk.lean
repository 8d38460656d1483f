/-
  The walks of the exact laws on the texts of columns.
-/
import Derived.Test.YtajjmdnbmicefabDoorLc
import Derived.Test.YtajjmdnbmicefabDoorTi
namespace Go.Proofs.YtajjmdnbmicefabDoor
open Go.RowKit Sets

set_option maxRecDepth 100000 in
theorem exactFormatColumn_walk (L : Bool) (a b : Int) (w : World) (_ : I64 a ∧ I64 b) (hL : LibIs w) :
    Calls Tryd.prog 6 #[colV L a b] w fun e w' => e = .returned (.bool true) ∧ Below w.heap.size w w' := by
  obtain ⟨c0, c1, c2⟩ := ColAt.box w L a b 23
  have b0 : Below w.heap.size w (w.alloc (.cells #[.bool L, .int .i64 a, .int .i64 b] 23)) := (Below.refl _ w).alloc (Nat.le_refl _) _
  have P0 := Lib.hid (hL.step b0)
  clear hL
  have hq : (fC L a b != fC L a b) = false := by simp
  go_enter Tryd.func6, Tryd.ntmps6
  go_wp2_with fail
  refine (toColumn_any L a b _).mono ?_
  rintro e w1 ⟨rfl, b1⟩
  obtain ⟨d0, d1, d2⟩ := ColAt.below (g := w.heap.size) ⟨c0, c1, c2⟩ b1 (by simp)
  have B1 := b0.trans (b1.mono b0.size)
  have P1 := Lib.hid (P0.out.step b1)
  have z1 := b1.size
  simp at z1
  go_wp2_with fail
  refine (specFC_any L a b _).mono ?_
  rintro e w2 ⟨rfl, b2⟩
  obtain ⟨e0, e1, e2⟩ := ColAt.below (g := w.heap.size) ⟨d0, d1, d2⟩ b2 (by omega)
  have B2 := B1.trans (b2.mono B1.size)
  have P2 := Lib.hid (P1.out.step b2)
  go_wp2_with fail
  refine (toColumn_any L a b _).mono ?_
  rintro e w3 ⟨rfl, b3⟩
  have B3 := B2.trans (b3.mono B2.size)
  have P3 := Lib.hid (P2.out.step b3)
  go_wp2_with fail
  refine (implFC_any L a b _ P3.out.1).mono ?_
  rintro e w4 ⟨rfl, b4⟩
  have B4 := B3.trans (b4.mono B3.size)
  go_wp2
  go_ret
  exact ⟨rfl, B4⟩

set_option maxRecDepth 100000 in
theorem eqColumn_any (L : Bool) (a b : Int) (w : World) :
    Calls Tryd.prog 22 #[colV L a b, colV L a b] w fun e w' => e = .returned (.bool true) ∧ Below w.heap.size w w' := by
  have b0 : Below w.heap.size w (w.alloc (.cells #[.bool L, .int .i64 a, .int .i64 b] 25)) := (Below.refl _ w).alloc (Nat.le_refl _) _
  obtain ⟨c0, c1, c2⟩ := ColAt.box w L a b 25
  obtain ⟨d0, d1, d2⟩ := ColAt.box (w.alloc (.cells #[.bool L, .int .i64 a, .int .i64 b] 25)) L a b 25
  have b1 := b0.alloc b0.size (.cells #[.bool L, .int .i64 a, .int .i64 b] 25)
  have h1 : (L != L) = false := by simp
  have h2 : (a != a) = false := by simp
  have h3 : (b != b) = false := by simp
  go_enter Tryd.func22, Tryd.ntmps22
  go_wp2
  go_ret
  exact ⟨rfl, b1⟩

set_option maxRecDepth 100000 in
theorem exactParseColumn_walk (s : ByteArray) (w : World) (hs : s.size ≤ 9223372036854775807) (hL : LibIs w) :
    Calls Tryd.prog 7 #[.string s] w fun e w' => e = .returned (.bool true) ∧ Below w.heap.size w w' := by
  by_cases hn : 1048576 < s.size
  · have hn' : (1048576 : Int) < (s.size : Int) := by omega
    go_enter Tryd.func7, Tryd.ntmps7
    go_wp2
    go_ret
    exact ⟨rfl, Below.refl _ _⟩
  · have hn' : decide ((1048576 : Int) < (s.size : Int)) = false := decide_eq_false (by omega)
    have hs1 : s.size ≤ 1048576 := by omega
    have spc := fun w => specPC_any s hs1 w
    have imp := fun w hp => implPC_any s hs1 w hp
    generalize pcV s.data.toList = N at spc imp
    generalize pcB s.data.toList = V at spc imp
    obtain ⟨L, a, b⟩ := N
    simp only at spc imp
    have SPC := Lib.hid spc
    have IMP := Lib.hid imp
    have P0 := Lib.hid hL
    clear spc imp hL
    have h2 : (V != V) = false := by simp
    go_enter Tryd.func7, Tryd.ntmps7
    go_wp2_with fail
    refine (SPC.out _).mono ?_
    rintro e w1 ⟨rfl, b1⟩
    have P1 := Lib.hid (P0.out.step b1)
    obtain ⟨c0, c1, c2⟩ := ColAt.box w1 L a b 25
    have b2 : Below w1.heap.size w1 (w1.alloc (.cells #[.bool L, .int .i64 a, .int .i64 b] 25)) := (Below.refl _ w1).alloc (Nat.le_refl _) _
    have B2 := b1.trans (b2.mono b1.size)
    have P2 := Lib.hid (P1.out.step b2)
    go_wp2_with fail
    refine (IMP.out _ P2.out).mono ?_
    rintro e w3 ⟨rfl, b3⟩
    obtain ⟨d0, d1, d2⟩ := ColAt.below (g := w1.heap.size) ⟨c0, c1, c2⟩ b3 (by simp)
    have B3 := B2.trans (b3.mono B2.size)
    have z3 := b3.size
    simp at z3
    have z3' : w1.heap.size < w3.heap.size := by omega
    have B4 := B3.alloc B3.size (.cells #[.bool L, .int .i64 a, .int .i64 b] 25)
    go_wp2_with fail
    refine (eqColumn_any L a b _).mono ?_
    rintro e w4 ⟨rfl, b4⟩
    go_wp2
    go_ret
    exact ⟨rfl, B4.trans (b4.mono B4.size)⟩
end Go.Proofs.YtajjmdnbmicefabDoor
