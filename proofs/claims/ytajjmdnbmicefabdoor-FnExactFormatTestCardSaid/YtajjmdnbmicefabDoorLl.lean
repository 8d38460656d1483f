/-
  The walk of the exact law FnExactFormatTest.
-/
import Derived.Test.YtajjmdnbmicefabDoorLw
import Derived.Test.YtajjmdnbmicefabDoorLc
import Derived.Test.YtajjmdnbmicefabDoorTjM
namespace Go.Proofs.YtajjmdnbmicefabDoor
open Go.RowKit Sets

set_option maxRecDepth 100000 in
set_option maxHeartbeats 1000000 in
theorem exactFormatTest_walk (L : Bool) (a b : Int) (A0 : Option Addr) (c0 : Nat) (xs0 : List Sp) (w : World) (_ : I64 a ∧ I64 b) (h0 : Reads w w.heap.size A0 c0 xs0) (hL : LibIs w) :
    Calls Tryd.prog 5 #[colV L a b, .slice A0 xs0.length c0] w fun e w' => e = .returned (.bool true) ∧ Below w.heap.size w w' := by
  have hc0 := h0.2.1
  have hl0 := h0.1
  have hf0 := h0.2.2.1
  obtain ⟨k0, k1, k2⟩ := ColAt.box w L a b 23
  have B0 : Below w.heap.size w (w.alloc (.cells #[.bool L, .int .i64 a, .int .i64 b] 23)) := (Below.refl _ w).alloc (Nat.le_refl _) _
  have P0 := Lib.hid (hL.step B0)
  have H0_0 := Lib.hid (h0.step B0)
  clear h0 hL
  by_cases hn0 : xs0.length ≤ 1048576
  rotate_left
  · have hfail := hn0
    have hsz0 : Hid ((if (1048576 : Int) < xs0.length then (-1 : Int) else (1048576 : Int) - xs0.length) = -1) := Lib.hid (if_pos (by omega))
    go_enter Tryd.func5, Tryd.ntmps5
    go_wp2_with fail
    refine (szSpanS_any _ _ _ _ _ (by omega) (by omega) (by omega)).mono ?_
    rw [hsz0.out]
    rintro e ws0 ⟨rfl, hws⟩
    subst ws0
    go_wp2
    go_ret
    exact ⟨rfl, B0⟩
  have hsz0 : Hid ((if (1048576 : Int) < xs0.length then (-1 : Int) else (1048576 : Int) - xs0.length) = (1048576 : Int) - xs0.length) := Lib.hid (if_neg (by omega))
  have hsn0 : 0 ≤ (1048576 : Int) - xs0.length := by omega
  have hb0 : xs0.length ≤ 1048576 := by omega
  have heq0 : (fT L a b xs0 != fT L a b xs0) = false := by simp
  go_enter Tryd.func5, Tryd.ntmps5
  go_wp2_with fail
  refine (szSpanS_any _ _ _ _ _ (by omega) (by omega) (by omega)).mono ?_
  rw [hsz0.out]
  rintro e ws0 ⟨rfl, hws⟩
  subst ws0
  go_wp2_with fail
  refine (toColumn_any L a b _).mono ?_
  rintro e w1 ⟨rfl, b1⟩
  obtain ⟨g0, g1, g2⟩ := ColAt.below (g := w.heap.size) ⟨k0, k1, k2⟩ b1 (by simp)
  have B1 := B0.trans (b1.mono B0.size)
  have P1 := Lib.hid (P0.out.step b1)
  have H0_1 := Lib.hid (H0_0.out.step b1)
  have z1 : w.heap.size < w1.heap.size := by have := b1.size; simp at this; omega
  clear k0 k1 k2
  go_wp2_with fail
  refine (toSpanS_any _ _ xs0 _ H0_1.out hb0).mono ?_
  rintro e w2 ⟨rfl, r2, o2, b2⟩
  obtain ⟨d0, d1, d2⟩ := ColAt.below (g := w.heap.size) ⟨g0, g1, g2⟩ b2 z1
  have B2 := B1.trans (b2.mono B1.size)
  have P2 := Lib.hid (P1.out.step b2)
  have H0_2 := Lib.hid (H0_1.out.step b2)
  have S0_2 := Lib.hid (Reads.of_own r2 o2 hf0 hb0)
  have z2 : w.heap.size < w2.heap.size := by have := b2.size; omega
  clear g0 g1 g2
  go_wp2_with fail
  refine (specFT_any L a b _ _ xs0 _ S0_2.out).mono ?_
  rintro e w3 ⟨rfl, b3⟩
  obtain ⟨g0, g1, g2⟩ := ColAt.below (g := w.heap.size) ⟨d0, d1, d2⟩ b3 z2
  have B3 := B2.trans (b3.mono B2.size)
  have P3 := Lib.hid (P2.out.step b3)
  have H0_3 := Lib.hid (H0_2.out.step b3)
  have z3 : w.heap.size < w3.heap.size := by have := b3.size; omega
  clear d0 d1 d2
  go_wp2_with fail
  refine (toSpanS_any _ _ xs0 _ H0_3.out hb0).mono ?_
  rintro e w4 ⟨rfl, r4, o4, b4⟩
  obtain ⟨d0, d1, d2⟩ := ColAt.below (g := w.heap.size) ⟨g0, g1, g2⟩ b4 z3
  have B4 := B3.trans (b4.mono B3.size)
  have P4 := Lib.hid (P3.out.step b4)
  have H0_4 := Lib.hid (H0_3.out.step b4)
  have X0_4 := Lib.hid (Reads.of_own r4 o4 hf0 hb0)
  have z4 : w.heap.size < w4.heap.size := by have := b4.size; omega
  clear g0 g1 g2
  go_wp2_with fail
  refine (toColumn_any L a b _).mono ?_
  rintro e w5 ⟨rfl, b5⟩
  have B5 := B4.trans (b5.mono B4.size)
  have P5 := Lib.hid (P4.out.step b5)
  have H0_5 := Lib.hid (H0_4.out.step b5)
  have X0_5 := Lib.hid (X0_4.out.step b5)
  go_wp2_with fail
  refine (implFT_any L a b _ _ xs0 _ X0_5.out P5.out.1).mono ?_
  rintro e w6 ⟨rfl, b6⟩
  have B6 := B5.trans (b6.mono B5.size)
  have H0_6 := Lib.hid (H0_5.out.step b6)
  have X0_6 := Lib.hid (X0_5.out.step b6)
  go_wp2_with fail
  refine (toSpanS_any _ _ xs0 _ H0_6.out hb0).mono ?_
  rintro e w7 ⟨rfl, r7, o7, b7⟩
  have B7 := B6.trans (b7.mono B6.size)
  have X0_7 := Lib.hid (X0_6.out.step b7)
  have Y0_7 := Lib.hid (Reads.of_own r7 o7 hf0 hb0)
  go_wp2_with fail
  refine (eqSpanS_any _ _ _ _ xs0 xs0 _ X0_7.out Y0_7.out).mono ?_
  rw [(same_iff xs0 xs0).2 rfl]
  rintro e w8 ⟨rfl, b8⟩
  have B8 := B7.trans (b8.mono B7.size)
  go_wp2
  go_ret
  exact ⟨rfl, B8⟩
end Go.Proofs.YtajjmdnbmicefabDoor
